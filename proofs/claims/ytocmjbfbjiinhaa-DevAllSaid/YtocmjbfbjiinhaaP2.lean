import Derived.Test.YtocmjbfbjiinhaaRg
import Derived.Test.YtocmjbfbjiinhaaP1
import Derived.Test.YtocmjbfbjiinhaaV38
import Derived.Test.YtocmjbfbjiinhaaV23
import Derived.Deep.DeepCutAuto
import Derived.StillTailTactics
import Derived.Test.YtocmjbfbjiinhaaV30
import Derived.Test.YtocmjbfbjiinhaaRows
import Derived.Deep.CutBlock
import Derived.WalkKit
import Derived.ProofKit
import Derived.OpenShut
/- A region that draws its order, operation by operation, where the world's state hangs on which operations are done: two calls that write, in one region. Of no function. -/
namespace Go.Proofs.Ytocmjbfbjiinhaa
open Go
set_option linter.unusedVariables false
set_option linter.unusedSimpArgs false
section
variable {P : Program} {ops : Array Oper} {T0 T : Array Value} {D : List Deferred} {V : Nat → Value → World → Prop} {J : (Nat → Bool) → World → Prop} {S : World → World → Prop} {Q : Exit → Act → World → Prop}
/-- What is to be shown of an operation that is not the last: L tells which ones are done. -/
def RStepJ (P : Program) (ops : Array Oper) (T0 : Array Value) (D : List Deferred) (V : Nat → Value → World → Prop) (J : (Nat → Bool) → World → Prop) (S : World → World → Prop) (Q : Exit → Act → World → Prop) (i : Nat) (o : Oper) : Prop :=
  ∀ T w (L : Nat → Bool), agree ops T0 T → L i = false → J L w → (∀ e ∈ o.after, Region.binds .any e = true → L e.on = true) → (∀ e ∈ o.after, Region.binds .any e = true → ∀ o', ops[e.on]? = some o' → V e.on (slotOf o' T) w) →
    if Region.wanted o (yielded ops T) then o.wp P ⟨T, D⟩ w (fun a' w' => ∃ v, a' = (⟨T, D⟩ : Act).put o.dst v ∧ V i (match o.dst with | some _ => v | none => undef) w' ∧ J (fun j => if i = j then true else L j) w' ∧ S w w') Q else V i undef w ∧ J (fun j => if i = j then true else L j) w
def RLastJ (P : Program) (ops : Array Oper) (T0 : Array Value) (D : List Deferred) (V : Nat → Value → World → Prop) (J : (Nat → Bool) → World → Prop) (Q : Exit → Act → World → Prop) (o : Oper) : Prop :=
  ∀ T w (L : Nat → Bool), agree ops T0 T → (∀ j, j + 1 < ops.size → L j = true) → L (ops.size - 1) = false → J L w → (∀ j o', j + 1 < ops.size → ops[j]? = some o' → V j (slotOf o' T) w) →
    if Region.wanted o (yielded ops T) then o.wp P ⟨T, D⟩ w (fun a' w' => Q .normal a' w') Q else Q .normal ((⟨T, D⟩ : Act).put o.dst undef) w
structure RInvJ (ops : Array Oper) (T0 : Array Value) (D : List Deferred) (V : Nat → Value → World → Prop) (J : (Nat → Bool) → World → Prop) (listed : Array Bool) (a : Act) (w : World) : Prop where
  size : listed.size = ops.size
  down : ∀ i o, ops[i]? = some o → listed.getD i false = true → ∀ e ∈ o.after, Region.binds .any e = true → listed.getD e.on false = true
  defers : a.defers = D
  frame : agree ops T0 a.tmps
  vals : ∀ i o, ops[i]? = some o → listed.getD i false = true → V i (slotOf o a.tmps) w
  world : J (fun i => listed.getD i false) w
  last : listed.getD (ops.size - 1) false = false
theorem wpAny_invJ {n : Nat} {Si : Nat → World → World → Prop} (hB : rgB n ops = true) (hn : T0.size = n) (stab : ∀ i j v w w', i ≠ j → V j v w → Si i w w' → V j v w')
    (steps : ∀ i o, ops[i]? = some o → i + 1 < ops.size → RStepJ P ops T0 D V J (Si i) Q i o) (hlast : ∀ o, ops[ops.size - 1]? = some o → RLastJ P ops T0 D V J Q o) :
    ∀ (fuel : Nat) (listed : Array Bool) (a : Act) (w : World), RInvJ ops T0 D V J listed a w → (List.range ops.size).countP (fun i => !listed.getD i false) ≤ fuel → wpAny P .any ops Q fuel listed a w := by
  obtain ⟨h0, hup, hwait, hdst, hfr⟩ := rg_parts hB
  intro fuel
  induction fuel with
  | zero =>
    intro listed a w hI hc
    exfalso
    have : 0 < (List.range ops.size).countP (fun i => !listed.getD i false) := List.countP_pos_iff.2 ⟨ops.size - 1, List.mem_range.2 (by omega), by rw [hI.last]; rfl⟩
    omega
  | succ fuel ih =>
    intro listed a w hI hc
    obtain ⟨T, D'⟩ := a
    have hD := hI.defers
    dsimp only at hD
    subst hD
    refine ⟨fun hr => ?_, fun i hi => ?_⟩
    · exfalso
      -- the first that is not listed is ready
      have hex : ∃ i, i < ops.size ∧ listed.getD i false = false := ⟨ops.size - 1, by omega, hI.last⟩
      have hmin : ∃ i, (i < ops.size ∧ listed.getD i false = false) ∧ ∀ j, j < i → ¬ (j < ops.size ∧ listed.getD j false = false) := by
        obtain ⟨i, hi⟩ := hex
        induction i using Nat.strongRecOn with
        | _ i ih =>
          by_cases hm : ∃ j, j < i ∧ (j < ops.size ∧ listed.getD j false = false)
          · obtain ⟨j, h1, h2⟩ := hm; exact ih j h1 h2
          · exact ⟨i, hi, fun j hj h => hm ⟨j, hj, h⟩⟩
      obtain ⟨i, ⟨h1, h2⟩, h3⟩ := hmin
      have hm : i ∈ Region.ready .any ops listed := mem_ready.2 ⟨h1, by rw [getD_tf (by rw [hI.size]; exact h1)]; exact h2, _, Array.getElem?_eq_getElem h1, fun e he hb => by
        have h4 := hup i _ (Array.getElem?_eq_getElem h1) e he hb
        cases h5 : listed.getD e.on false with
        | true => rfl
        | false => exact absurd ⟨by omega, h5⟩ (h3 e.on h4)⟩
      rw [hr] at hm; cases hm
    · obtain ⟨h1, h2, o, ho, h3⟩ := mem_ready.1 hi
      rw [getD_tf (by rw [hI.size]; exact h1)] at h2
      have hsz : i < listed.size := by rw [hI.size]; exact h1
      unfold wpOp
      rw [ho]
      dsimp only
      by_cases hl : i + 1 < ops.size
      · have hst := steps i o ho hl T w (fun j => listed.getD j false) hI.frame h2 hI.world (fun e he hb => h3 e he hb) (fun e he hb o' ho' => hI.vals _ _ ho' (h3 e he hb))
        have next : ∀ v w', V i (match o.dst with | some _ => v | none => undef) w' → J (fun j => if i = j then true else listed.getD j false) w' → (∀ j v, i ≠ j → V j v w → V j v w') → wpAny P .any ops Q fuel (listed.setIfInBounds i true) ((⟨T, D'⟩ : Act).put o.dst v) w' := by
          intro v w' hV hJ hS
          refine ih _ _ _ ⟨by simpa using hI.size, fun j oj hoj hj e he hb => ?_, defers_put, agree_put ho hI.frame, fun j oj hoj hj => ?_, ?_, ?_⟩ ?_
          · rw [getD_set hsz] at hj ⊢
            by_cases e1 : i = e.on
            · rw [if_pos e1]
            · rw [if_neg e1]
              by_cases e2 : i = j
              · subst e2; rw [ho] at hoj; cases hoj; exact h3 e he hb
              · rw [if_neg e2] at hj; exact hI.down j oj hoj hj e he hb
          · rw [getD_set hsz] at hj
            by_cases e2 : i = j
            · subst e2; rw [ho] at hoj; cases hoj
              rw [slotOf_put_self (fun d hd => by rw [hI.frame.1, hn]; exact hfr i o d ho hd)]; exact hV
            · rw [if_neg e2] at hj
              rw [slotOf_put_other (fun d hd => hdst i j o oj ho hoj e2 d hd)]
              exact hS j _ e2 (hI.vals j oj hoj hj)
          · have e9 : (fun j => (listed.setIfInBounds i true).getD j false) = (fun j => if i = j then true else listed.getD j false) := funext fun j => getD_set hsz
            rw [e9]; exact hJ
          · rw [getD_set hsz, if_neg (by omega)]; exact hI.last
          · have : (List.range ops.size).countP (fun j => !(listed.setIfInBounds i true).getD j false) < (List.range ops.size).countP (fun j => !listed.getD j false) := by
              have key : ∀ (l : List Nat), i ∈ l → l.Nodup → l.countP (fun j => !(listed.setIfInBounds i true).getD j false) < l.countP (fun j => !listed.getD j false) := by
                have le : ∀ (l : List Nat), l.countP (fun j => !(listed.setIfInBounds i true).getD j false) ≤ l.countP (fun j => !listed.getD j false) := fun l =>
                  List.countP_mono_left fun j _ hj => by
                    rw [getD_set hsz] at hj
                    by_cases e2 : i = j
                    · rw [if_pos e2] at hj; cases hj
                    · rw [if_neg e2] at hj; exact hj
                intro l
                induction l with
                | nil => intro h; cases h
                | cons x l ihl =>
                  intro hm hnd
                  rw [List.countP_cons, List.countP_cons]
                  by_cases e : x = i
                  · subst e
                    have e1 : (!(listed.setIfInBounds x true).getD x false) = false := by rw [getD_set hsz, if_pos rfl]; rfl
                    have e2 : (!listed.getD x false) = true := by rw [h2]; rfl
                    rw [e1, e2]
                    have := le l
                    simp only [Bool.false_eq_true, if_false, if_true]
                    omega
                  · have hm' : i ∈ l := by
                      rcases List.mem_cons.1 hm with h | h
                      · exact absurd h.symm e
                      · exact h
                    have := ihl hm' (List.nodup_cons.1 hnd).2
                    have e1 : (listed.setIfInBounds i true).getD x false = listed.getD x false := by rw [getD_set hsz, if_neg (fun h => e h.symm)]
                    rw [e1]
                    omega
              exact key _ (List.mem_range.2 h1) List.nodup_range
            omega
        by_cases hw : Region.wanted o (yielded ops T) = true
        · rw [if_pos hw] at hst ⊢
          refine Or.inl (Oper.wp_mono (fun a' w' => ?_) hst)
          rintro ⟨v, rfl, hV, hJ, hS⟩
          exact next v w' hV hJ (fun j v hij h => stab i j v w w' hij h hS)
        · rw [if_neg hw] at hst ⊢
          refine next undef w ?_ hst.2 (fun j v _ h => h)
          cases o.dst <;> exact hst.1
      · have hil : i = ops.size - 1 := by omega
        subst hil
        have hall : ∀ m j, j + m + 1 = ops.size → j + 1 < ops.size → listed.getD j false = true := by
          intro m
          induction m using Nat.strongRecOn with
          | _ m ihm =>
            intro j hj hj1
            obtain ⟨k, ok, hjk, hok, e, he, he1, hb⟩ := hwait j hj1
            subst he1
            by_cases hk : k + 1 < ops.size
            · exact hI.down k ok hok (ihm (ops.size - 1 - k) (by omega) k (by omega) hk) e he hb
            · have hkl := (Array.getElem?_eq_some_iff.1 hok).1
              have : k = ops.size - 1 := by omega
              subst this
              rw [ho] at hok; cases hok
              exact h3 e he hb
        have hst := hlast o ho T w (fun j => listed.getD j false) hI.frame (fun j hj => hall (ops.size - 1 - j) j (by omega) hj) hI.last hI.world (fun j o' hj hoj => hI.vals j o' hoj (hall (ops.size - 1 - j) j (by omega) hj))
        have next : ∀ a' w', Q .normal a' w' → wpAny P .any ops Q fuel (listed.setIfInBounds (ops.size - 1) true) a' w' := fun a' w' hq =>
          wpAny_done (by simpa using hI.size) (fun j hj => by
            rw [getD_set hsz]
            by_cases e : ops.size - 1 = j
            · rw [if_pos e]
            · rw [if_neg e]; exact hall (ops.size - 1 - j) j (by omega) (by omega)) hq
        by_cases hw : Region.wanted o (yielded ops T) = true
        · rw [if_pos hw] at hst ⊢
          exact Or.inl (Oper.wp_mono next hst)
        · rw [if_neg hw] at hst ⊢
          exact next _ _ hst
theorem RStepJ.of {i : Nat} {o : Oper} (hg : o.guard = none) (h : ∀ T w (L : Nat → Bool), agree ops T0 T → L i = false → J L w → (∀ e ∈ o.after, Region.binds .any e = true → L e.on = true) → (∀ e ∈ o.after, Region.binds .any e = true → ∀ o', ops[e.on]? = some o' → V e.on (slotOf o' T) w) →
    o.wp P ⟨T, D⟩ w (fun a' w' => ∃ v, a' = (⟨T, D⟩ : Act).put o.dst v ∧ V i (match o.dst with | some _ => v | none => undef) w' ∧ J (fun j => if i = j then true else L j) w' ∧ S w w') Q) : RStepJ P ops T0 D V J S Q i o := by
  intro T w L h1 h2 h3 h4 h5
  rw [if_pos (by unfold Region.wanted; rw [hg])]
  exact h T w L h1 h2 h3 h4 h5
/-- A guarded operation whose guard holds. -/
theorem RStepJ.want {i : Nat} {o : Oper} {g : Nat} {b : Bool} {og : Oper} {d : Nat} (hg : o.guard = some (g, b)) (hog : ops[g]? = some og) (hd : og.dst = some d) (hin : o.after.any (fun e => e.on == g && Region.binds .any e) = true) (hv : ∀ v w, V g v w → v = .bool b) (h : ∀ T w (L : Nat → Bool), agree ops T0 T → L i = false → J L w → (∀ e ∈ o.after, Region.binds .any e = true → L e.on = true) → (∀ e ∈ o.after, Region.binds .any e = true → ∀ o', ops[e.on]? = some o' → V e.on (slotOf o' T) w) →
    o.wp P ⟨T, D⟩ w (fun a' w' => ∃ v, a' = (⟨T, D⟩ : Act).put o.dst v ∧ V i (match o.dst with | some _ => v | none => undef) w' ∧ J (fun j => if i = j then true else L j) w' ∧ S w w') Q) : RStepJ P ops T0 D V J S Q i o := by
  intro T w L h1 h2 h3 h4 h5
  have hw : Region.wanted o (yielded ops T) = true := by
    simp only [Array.any_eq_true', Bool.and_eq_true, beq_iff_eq] at hin
    obtain ⟨e, he, e1, e2⟩ := hin
    subst e1
    have := hv _ _ (h5 e he e2 og hog)
    unfold slotOf at this
    rw [hd] at this
    have hT : T[d]? = some (.bool b) := by
      simp only at this
      rw [Array.getD_eq_getD_getElem?] at this
      cases hx : T[d]? with
      | none => rw [hx] at this; cases this
      | some x => rw [hx] at this; rw [show x = _ from this]
    unfold Region.wanted yielded
    rw [hg]
    simp [hog, hd, hT]
  rw [if_pos hw]
  exact h T w L h1 h2 h3 h4 h5
theorem RLastJ.of {o : Oper} (hg : o.guard = none) (h : ∀ T w (L : Nat → Bool), agree ops T0 T → (∀ j, j + 1 < ops.size → L j = true) → L (ops.size - 1) = false → J L w → (∀ j o', j + 1 < ops.size → ops[j]? = some o' → V j (slotOf o' T) w) →
    o.wp P ⟨T, D⟩ w (fun a' w' => Q .normal a' w') Q) : RLastJ P ops T0 D V J Q o := by
  intro T w L h1 h2 h3 h4 h5
  rw [if_pos (by unfold Region.wanted; rw [hg])]
  exact h T w L h1 h2 h3 h4 h5
/-- A REGION THAT DRAWS ITS ORDER, operation by operation; the world's state by what is done. -/
theorem wp_region_rgj {id : Nat} {w : World} {l : List Oper} (V : Nat → Value → World → Prop) (J : (Nat → Bool) → World → Prop) (Si : Nat → World → World → Prop) (hm : P.follows .mixedOrders = true) (hB : rgB T0.size l.toArray = true) (stab : ∀ i j v w w', i ≠ j → V j v w → Si i w w' → V j v w') (hJ : J (fun _ => false) w.drew)
    (h : RAll (fun i o => RStepJ P l.toArray T0 D V J (Si i) Q i o) (RLastJ P l.toArray T0 D V J Q) 0 l) : (Code.region id l.toArray true).wp P Q ⟨T0, D⟩ w := by
  obtain ⟨h1, h2⟩ := h.at_
  have e9 : (fun i => (Array.replicate l.toArray.size false).getD i false) = (fun _ => false) := funext fun i => rep_f _ _
  refine wp_region_any hm (wpAny_invJ hB rfl stab (fun i o ho hi => ?_) (fun o ho => h2 o (by simpa using ho)) _ _ _ _ ⟨by simp, fun i o ho hl => ?_, rfl, ⟨rfl, fun _ _ => rfl⟩, fun i o ho hl => ?_, by rw [e9]; exact hJ, ?_⟩ ?_)
  · have := h1 i o (by simpa using ho) (by simpa using hi)
    rwa [Nat.zero_add] at this
  · rw [rep_f] at hl; cases hl
  · rw [rep_f] at hl; cases hl
  · exact rep_f _ _
  · exact Nat.le_trans List.countP_le_length (by simp)
end
end Go.Proofs.Ytocmjbfbjiinhaa

/- What a Crash makes of the reference's device. -/
namespace Go.Proofs.Ytocmjbfbjiinhaa
open Go.ChangeShapes Go.WideShapes Go.ChangeAt Go.RowKit
set_option linter.unusedVariables false
theorem set_self {α : Type} {l : List α} {r : Nat} {x : α} (h : l[r]? = some x) : l.set r x = l := by
  apply List.ext_getElem?
  intro k
  rw [List.getElem?_set]
  by_cases e : r = k
  · subst e
    rw [if_pos rfl, if_pos (List.getElem?_eq_some_iff.1 h).1, h]
  · rw [if_neg e]
def setlRow (bs : List Int) (wt : List (Nat × List Int)) : Nat → List (List Int) → List (List Int)
  | 0, s => s
  | i + 1, s => if bitAt bs i then (match wt[i]? with | some p => (setlRow bs wt i s).set p.1 p.2 | none => setlRow bs wt i s) else setlRow bs wt i s
theorem setlRow_len (bs : List Int) (wt : List (Nat × List Int)) (s : List (List Int)) : ∀ i, (setlRow bs wt i s).length = s.length
  | 0 => rfl
  | i + 1 => by
    unfold setlRow
    have := setlRow_len bs wt s i
    split
    · split <;> simp [this]
    · exact this
theorem setlRow_mem (bs : List Int) (wt : List (Nat × List Int)) (s : List (List Int)) (P : List Int → Prop) (hs : ∀ b ∈ s, P b) (hw : ∀ p ∈ wt, P p.2) : ∀ i, ∀ b ∈ setlRow bs wt i s, P b
  | 0 => hs
  | i + 1 => by
    have ih := setlRow_mem bs wt s P hs hw i
    unfold setlRow
    split
    · split
      · rename_i p hp
        intro b hb
        rcases List.mem_or_eq_of_mem_set hb with h | h
        · exact ih b h
        · subst h; exact hw p (List.mem_of_getElem? hp)
      · exact ih
    · exact ih
def RM.setl (m : RM) (r : Nat) (bs : List Int) (i : Nat) : RM := { m with sure := m.sure.set r (setlRow bs (m.wait.getD r []) i (m.sure.getD r [])) }
def RM.crash1 (m : RM) (r : Nat) (bs : List Int) : RM :=
  { m with sure := m.sure.set r (setlRow bs (m.wait.getD r []) (m.wait.getD r []).length (m.sure.getD r [])), seen := m.seen.set r (setlRow bs (m.wait.getD r []) (m.wait.getD r []).length (m.sure.getD r [])), wait := m.wait.set r [] }
def RM.crashN (m : RM) (ks : List (List Int)) : Nat → RM
  | 0 => m
  | k + 1 => (RM.crashN m ks k).crash1 k (ks.getD k [])
def RM.crash (m : RM) (ks : List (List Int)) : RM := { RM.crashN m ks m.seen.length with left := -1 }
theorem RM.crash1_len (m : RM) (r : Nat) (bs : List Int) : (m.crash1 r bs).seen.length = m.seen.length ∧ (m.crash1 r bs).left = m.left := by
  unfold RM.crash1; exact ⟨by simp, rfl⟩
theorem RM.crashN_len (m : RM) (ks : List (List Int)) : ∀ k, (m.crashN ks k).seen.length = m.seen.length ∧ (m.crashN ks k).left = m.left
  | 0 => ⟨rfl, rfl⟩
  | k + 1 => by
    have := RM.crashN_len m ks k
    have h1 := RM.crash1_len (m.crashN ks k) k (ks.getD k [])
    exact ⟨h1.1.trans this.1, h1.2.trans this.2⟩
theorem RM.Ok.crash1 {m : RM} (h : m.Ok) {r : Nat} (hr : r < m.seen.length) (bs : List Int) : (m.crash1 r bs).Ok := by
  obtain ⟨srow, hsr⟩ : ∃ x, m.sure[r]? = some x := ⟨_, List.getElem?_eq_getElem (by rw [h.sureLen]; exact hr)⟩
  obtain ⟨wrow, hwr⟩ : ∃ x, m.wait[r]? = some x := ⟨_, List.getElem?_eq_getElem (by rw [h.waitLen]; exact hr)⟩
  have g1 : m.sure.getD r [] = srow := by rw [List.getD, hsr]; rfl
  have g2 : m.wait.getD r [] = wrow := by rw [List.getD, hwr]; rfl
  obtain ⟨⟨nrow, hn, hl⟩, hb⟩ := h.sures r srow hsr
  have hw := h.waits r wrow hwr
  have hS : (setlRow bs wrow wrow.length srow).length = nrow.length := (setlRow_len _ _ _ _).trans hl
  have hB : ∀ b ∈ setlRow bs wrow wrow.length srow, BlkOk b := setlRow_mem bs wrow srow BlkOk hb (fun p hp => (hw p hp).2) _
  have lens : ∀ (k : Nat) (row : List (List Int)), m.seen[k]? = some row → ∃ row', (m.seen.set r (setlRow bs wrow wrow.length srow))[k]? = some row' ∧ row'.length = row.length := fun k row hk => by
    rw [List.getElem?_set]
    by_cases e : r = k
    · subst e
      rw [if_pos rfl, if_pos hr]
      rw [hn] at hk; injection hk with hk; subst hk
      exact ⟨_, rfl, hS⟩
    · rw [if_neg e]; exact ⟨row, hk, rfl⟩
  unfold RM.crash1
  rw [g1, g2]
  generalize setlRow bs wrow wrow.length srow = S at *
  exact
  { pos := by show 0 < (m.seen.set r S).length; rw [List.length_set]; exact h.pos
    few := by show (m.seen.set r S).length ≤ 8; rw [List.length_set]; exact h.few
    sureLen := by show (m.sure.set r S).length = (m.seen.set r S).length; rw [List.length_set, List.length_set]; exact h.sureLen
    waitLen := by show (m.wait.set r []).length = (m.seen.set r S).length; rw [List.length_set, List.length_set]; exact h.waitLen
    trLen := by show _ = (m.seen.set r S).length; rw [List.length_set]; exact h.trLen
    rows := fun k row hk => by
      have hk' : (m.seen.set r S)[k]? = some row := hk
      rw [List.getElem?_set] at hk'
      by_cases e : r = k
      · subst e
        rw [if_pos rfl, if_pos hr] at hk'
        injection hk' with hk'; subst hk'
        have := h.rows r nrow hn
        exact ⟨by rw [hS]; exact this.1, by rw [hS]; exact this.2.1, hB⟩
      · rw [if_neg e] at hk'
        exact h.rows k row hk'
    sures := fun k row hk => by
      have hk' : (m.sure.set r S)[k]? = some row := hk
      rw [List.getElem?_set] at hk'
      by_cases e : r = k
      · subst e
        rw [if_pos rfl, if_pos (by rw [h.sureLen]; exact hr)] at hk'
        injection hk' with hk'; subst hk'
        exact ⟨⟨_, by show (m.seen.set r _)[r]? = _; rw [List.getElem?_set_self hr], rfl⟩, hB⟩
      · rw [if_neg e] at hk'
        obtain ⟨⟨row', h1, h2⟩, h3⟩ := h.sures k row hk'
        obtain ⟨row2, h4, h5⟩ := lens k row' h1
        exact ⟨⟨row2, h4, by omega⟩, h3⟩
    waits := fun k row hk => by
      have hk' : (m.wait.set r [])[k]? = some row := hk
      rw [List.getElem?_set] at hk'
      by_cases e : r = k
      · subst e
        rw [if_pos rfl, if_pos (by rw [h.waitLen]; exact hr)] at hk'
        injection hk' with hk'; subst hk'
        intro p hp; cases hp
      · rw [if_neg e] at hk'
        intro p hp
        obtain ⟨⟨row', h1, h2⟩, h3⟩ := h.waits k row hk' p hp
        obtain ⟨row2, h4, h5⟩ := lens k row' h1
        exact ⟨⟨row2, h4, by omega⟩, h3⟩
    left := h.left }
theorem RM.crashN_ok {m : RM} (h : m.Ok) (ks : List (List Int)) : ∀ k, k ≤ m.seen.length → (m.crashN ks k).Ok
  | 0, _ => h
  | k + 1, hk => (RM.crashN_ok h ks k (by omega)).crash1 (by rw [(RM.crashN_len m ks k).1]; omega) _
/-- The round's rows. -/
theorem RM.setl_zero {m : RM} {r : Nat} {bs : List Int} {srow : List (List Int)} (hs : m.sure[r]? = some srow) : m.setl r bs 0 = m := by
  unfold RM.setl setlRow
  have : m.sure.getD r [] = srow := by rw [List.getD, hs]; rfl
  rw [this, set_self hs]
theorem RM.setl_at {m : RM} {r : Nat} (bs : List Int) (i : Nat) {srow : List (List Int)} {wrow : List (Nat × List Int)} (hs : m.sure[r]? = some srow) (hw : m.wait[r]? = some wrow) : (m.setl r bs i).sure[r]? = some (setlRow bs wrow i srow) := by
  have e1 : m.sure.getD r [] = srow := by rw [List.getD, hs]; rfl
  have e2 : m.wait.getD r [] = wrow := by rw [List.getD, hw]; rfl
  unfold RM.setl
  rw [e1, e2]
  exact List.getElem?_set_self (List.getElem?_eq_some_iff.1 hs).1
theorem RM.setl_step {m : RM} {r : Nat} (bs : List Int) (i : Nat) {srow : List (List Int)} {wrow : List (Nat × List Int)} {p : Nat × List Int} (hs : m.sure[r]? = some srow) (hw : m.wait[r]? = some wrow) (hp : wrow[i]? = some p) :
    m.setl r bs (i + 1) = if bitAt bs i then { m.setl r bs i with sure := (m.setl r bs i).sure.set r ((setlRow bs wrow i srow).set p.1 p.2) } else m.setl r bs i := by
  have e1 : m.sure.getD r [] = srow := by rw [List.getD, hs]; rfl
  have e2 : m.wait.getD r [] = wrow := by rw [List.getD, hw]; rfl
  by_cases hb : bitAt bs i = true
  · rw [if_pos hb]
    unfold RM.setl
    rw [e1, e2]
    have : setlRow bs wrow (i + 1) srow = (setlRow bs wrow i srow).set p.1 p.2 := by
      rw [setlRow, if_pos hb, hp]
    rw [this]
    simp only [List.set_set]
  · rw [if_neg hb]
    unfold RM.setl
    rw [e1, e2]
    have : setlRow bs wrow (i + 1) srow = setlRow bs wrow i srow := by rw [setlRow, if_neg hb]
    rw [this]
theorem RM.setl_len0 (m : RM) (r : Nat) (bs : List Int) (i : Nat) : ((m.setl r bs i).G 0).length = m.sure.length := by unfold RM.G RM.setl; simp
theorem RM.crashN_wait (m : RM) (ks : List (List Int)) : ∀ n r, n ≤ r → (m.crashN ks n).wait[r]? = m.wait[r]?
  | 0, _, _ => rfl
  | n + 1, r, h => by
    have ih := RM.crashN_wait m ks n r (by omega)
    show ((m.crashN ks n).wait.set n [])[r]? = _
    rw [List.getElem?_set_ne (by omega)]; exact ih
theorem pen_at : ∀ (l : List (Nat × List Int)) (j : Nat) (p : Nat × List Int), l[j]? = some p → (l.map penE).flatten[j * 2]? = some (.int .i64 (p.1 : Int)) ∧ (l.map penE).flatten[j * 2 + 1]? = some (.string (strOfNums p.2))
  | [], j, p, h => by cases h
  | q :: l, 0, p, h => by
    injection h with h; subst h
    exact ⟨rfl, rfl⟩
  | q :: l, j + 1, p, h => by
    have ih := pen_at l j p (by simpa using h)
    rw [List.map_cons, List.flatten_cons]
    refine ⟨?_, ?_⟩
    · rw [List.getElem?_append_right (by show 2 ≤ _; omega)]
      rw [show (j + 1) * 2 - (penE q).length = j * 2 from by show (j + 1) * 2 - 2 = _; omega]; exact ih.1
    · rw [List.getElem?_append_right (by show 2 ≤ _; omega)]
      rw [show (j + 1) * 2 + 1 - (penE q).length = j * 2 + 1 from by show (j + 1) * 2 + 1 - 2 = _; omega]; exact ih.2
end Go.Proofs.Ytocmjbfbjiinhaa

/- Contract: the reference's Crash. -/
namespace Go.Proofs.Ytocmjbfbjiinhaa
open Go.ChangeShapes Go.WideShapes Go.ChangeAt Go.RowKit
set_option linter.unusedVariables false
theorem i64_div8 (k : Nat) (hk : k ≤ 1000000) : IntKind.i64.wrap ((k : Int).tdiv 8) = ((k / 8 : Nat) : Int) := by
  rw [show (k : Int).tdiv 8 = ((k / 8 : Nat) : Int) from by rw [Int.ofNat_tdiv]; rfl]; exact IntWalk.i64_in _ (by omega)
/-- What region 11's operations yield. -/
def VC11 (hp k g0 g1 g2 B R c0 c1 c2 n : Nat) (u0 : Value) (xs : List Value) (i : Nat) (v : Value) (w : World) : Prop :=
  match i with
  | 0 | 1 | 5 | 6 | 11 | 12 | 13 => v = .pointer (some ⟨hp, 0, none⟩)
  | 2 => v = .pointer (some ⟨hp, 1, none⟩)
  | 3 => v = .slice (some ⟨g1, 0, none⟩) R c1
  | 4 | 9 | 15 => v = .int .i64 k
  | 7 => v = .pointer (some ⟨hp, 2, none⟩)
  | 8 => v = .slice (some ⟨g2, 0, none⟩) R c2
  | 14 => v = .slice (some ⟨g0, 0, none⟩) R c0
  | 16 => v = .pointer (some ⟨g0, k, none⟩)
  | 17 => v = u0
  | 19 => v = .pointer (some ⟨g1, k, none⟩)
  | 21 => v = .pointer (some ⟨g2, k, none⟩)
  | 10 => ∃ q, v = .slice (some ⟨q, 0, none⟩) 0 0 ∧ B ≤ q ∧ w.heap[q]? = some (.cells #[] 9 (0, 0))
  | 18 => RowAt w (fun q => B ≤ q) 9 1 v n xs ∧ ∃ A c, v = .slice A n c
  | _ => True
/-- How far it is. -/
def JC11 (B g1 k n : Nat) (xs : List Value) (w6 : World) (Ls : Nat → Bool) (w : World) : Prop :=
  (Ls 20 = false ∧ Below B w6 w) ∨ (Ls 20 = true ∧ (Ls 3 = true ∧ Ls 8 = true ∧ Ls 10 = true ∧ Ls 14 = true ∧ Ls 17 = true ∧ Ls 18 = true) ∧ ∃ W3 v, Below B w6 W3 ∧ RowAt W3 (fun q => B ≤ q) 9 1 v n xs ∧ (∃ A c, v = .slice A n c) ∧ w = W3.setCell ⟨g1, k, none⟩ v)
def SC11 (g1 i : Nat) (w w' : World) : Prop := if i = 20 then Touch (fun q => q = g1) w w' else w.grownBy w' none
theorem SC11.refl (g1 : Nat) (w : World) {i : Nat} (hi : i ≠ 20) : SC11 g1 i w w := by unfold SC11; rw [if_neg hi]; exact World.grownBy.refl w _
theorem SC11.grown {g1 i : Nat} {w w' : World} (hi : i ≠ 20) (h : w.grownBy w' none) : SC11 g1 i w w' := by unfold SC11; rw [if_neg hi]; exact h
theorem SC11.set {g1 k : Nat} {w : World} (v : Value) : SC11 g1 20 w (w.setCell ⟨g1, k, none⟩ v) := by
  unfold SC11; rw [if_pos rfl]; exact (Touch.refl (fun q => q = g1) w).setCell (p := ⟨g1, k, none⟩) rfl v
theorem JC11.fresh {B g1 k n : Nat} {xs : List Value} {w6 : World} {Ls : Nat → Bool} {w : World} (h : JC11 B g1 k n xs w6 Ls w) (i : Nat) (hi : i = 3 ∨ i = 8 ∨ i = 10 ∨ i = 14 ∨ i = 17 ∨ i = 18 ∨ i = 20) (hn : Ls i = false) : Below B w6 w := by
  rcases h with h | ⟨h20, ⟨h1, h2, h3, h4, h5, h6⟩, _⟩
  · exact h.2
  · rcases hi with rfl | rfl | rfl | rfl | rfl | rfl | rfl <;> simp_all
theorem JC11.add {B g1 k n : Nat} {xs : List Value} {w6 : World} {Ls : Nat → Bool} {w : World} (h : JC11 B g1 k n xs w6 Ls w) {i : Nat} (hi : i ≠ 20) : JC11 B g1 k n xs w6 (fun j => if i = j then true else Ls j) w := by
  rcases h with h | ⟨h20, ⟨h1, h2, h3, h4, h5, h6⟩, h7⟩
  · exact Or.inl ⟨by simp [hi, h.1], h.2⟩
  · refine Or.inr ⟨by simp [h20], ⟨?_, ?_, ?_, ?_, ?_, ?_⟩, h7⟩ <;> simp_all
theorem JC11.grow {B g1 k n : Nat} {xs : List Value} {w6 : World} {Ls : Nat → Bool} {w w' : World} (h : JC11 B g1 k n xs w6 Ls w) {i : Nat} (hi : i = 10 ∨ i = 18) (hn : Ls i = false) (hb : Below B w6 w') : JC11 B g1 k n xs w6 (fun j => if i = j then true else Ls j) w' := by
  rcases h with h | ⟨h20, ⟨h1, h2, h3, h4, h5, h6⟩, _⟩
  · refine Or.inl ⟨?_, hb⟩
    have : i ≠ 20 := by omega
    simp [this, h.1]
  · rcases hi with rfl | rfl <;> simp_all
theorem or_if (Ls : Nat → Bool) (i : Nat) : (fun j => decide (i = j) || Ls j) = fun j => if i = j then true else Ls j := funext fun j => by by_cases h : i = j <;> simp [h]
theorem JC11.add' {B g1 k n : Nat} {xs : List Value} {w6 : World} {Ls : Nat → Bool} {w : World} (h : JC11 B g1 k n xs w6 Ls w) (i : Nat) (hi : i ≠ 20) : JC11 B g1 k n xs w6 (fun j => decide (i = j) || Ls j) w := by rw [or_if]; exact h.add hi
theorem JC11.grow' {B g1 k n : Nat} {xs : List Value} {w6 : World} {Ls : Nat → Bool} {w w' : World} (h : JC11 B g1 k n xs w6 Ls w) (i : Nat) (hi : i = 10 ∨ i = 18) (hn : Ls i = false) (hb : Below B w6 w') : JC11 B g1 k n xs w6 (fun j => decide (i = j) || Ls j) w' := by rw [or_if]; exact h.grow hi hn hb
theorem JC11.done {B g1 k n : Nat} {xs : List Value} {w6 : World} {Ls : Nat → Bool} {w : World} (h : JC11 B g1 k n xs w6 Ls w) (h20 : Ls 20 = true) : ∃ W3 v, Below B w6 W3 ∧ RowAt W3 (fun q => B ≤ q) 9 1 v n xs ∧ (∃ A c, v = .slice A n c) ∧ w = W3.setCell ⟨g1, k, none⟩ v := by
  rcases h with h | h
  · rw [h.1] at h20; cases h20
  · exact h.2.2
theorem VC11.on {hp k g0 g1 g2 B R c0 c1 c2 n : Nat} {u0 : Value} {xs : List Value} {i j : Nat} {v : Value} {w w' : World} (hg : g1 < B) (h : VC11 hp k g0 g1 g2 B R c0 c1 c2 n u0 xs j v w) (hs : SC11 g1 i w w') : VC11 hp k g0 g1 g2 B R c0 c1 c2 n u0 xs j v w' := by
  have hkeep : ∀ q, B ≤ q → q < w.heap.size → w'.heap[q]? = w.heap[q]? := fun q hq hl => by
    unfold SC11 at hs
    split at hs
    · exact hs.block q hl (by show ¬ q = g1; omega)
    · exact hs.block q hl (by simp)
  unfold VC11 at *
  split <;> try exact h
  · obtain ⟨q, e, hq, hc⟩ := h
    exact ⟨q, e, hq, by rw [hkeep q hq (room_lt hc)]; exact hc⟩
  · exact ⟨h.1.keep fun q hl ho => hkeep q ho hl, h.2⟩
  · trivial
theorem wp_app_run {P : Program} {o : Oper} {a : Act} {w : World} {K : Act → World → Prop} {Q : Exit → Act → World → Prop} (s x : Operand) (t1 t2 : TypeId)
    (hop : o.op = Op.call { callee := Callee.builtin Builtin.append, args := #[s, x], argTypes := #[t1, t2] }) (v y v' : Value) (w' : World) (hs : a.eval s = v) (hx : a.eval x = y)
    (hrun : (Builtin.append_ #[t1, t2] o.type #[v, y]).run P w = .ok v' w') (hK : K (a.put o.dst v') w') : o.wp P a w K Q := by
  unfold Oper.wp
  simp only [execOp, hop, resolve, invoke, builtin, Sem.run_bind, Sem.run_pure, Result.andThen_ok, List.map_toArray, List.map_cons, List.map_nil, hs, hx, hrun]
  exact hK
section
variable {w : World} {O : Nat → RRole} {hp : Nat} {L : Nat → Value} {m : RM}
theorem RAt.rowL {G : Nat → RTab} {left : Int} (h : RAt w O hp L G left) {t r : Nat} (ht : t < 4) {row : List (List Value)} (hr : (G t)[r]? = some row) {g n cap : Nat} (hL : L t = .slice (some ⟨g, 0, none⟩) n cap) :
    ∃ u, O g = .tab t ∧ g < w.heap.size ∧ w.cell? ⟨g, r, none⟩ = some u ∧ w.frozen? ⟨g, r, none⟩ = false ∧ RowAt w (fun k => O k = .row t r) (rER t) (rSz t) u row.length row.flatten := by
  obtain ⟨g', cap', u, e1, h1, h2, h3, h4, h5⟩ := h.row ht hr
  rw [hL] at e1; injection e1 with e1; injection e1 with e1; injection e1 with e1; subst e1
  exact ⟨u, h1, h2, h3, h4, h5⟩
set_option maxRecDepth 100000 in
set_option maxHeartbeats 6400000 in
theorem rcrash_any (h : RAt w O hp L m.G m.left) (hO : ∀ k, O k ≠ .none → k < w.heap.size) (hok : m.Ok) (A : Option Addr) (ks : List (List Int)) (c : Nat) (hks : TxtsF w (fun k => O k ≠ .none) A ks) (hkl : ks.length ≤ 1000000) (hwl : ∀ (r : Nat) (row : List (Nat × List Int)), m.wait[r]? = some row → row.length ≤ 1000000) :
    Calls Try.prog 19 #[.pointer (some ⟨hp, 0, none⟩), .slice A ks.length c] w fun e w' => e = .returned (.tuple #[]) ∧ ∃ O', RAt w' O' hp L (m.crash ks).G (m.crash ks).left ∧ (∀ k, O' k ≠ .none → k < w'.heap.size) ∧ (∀ k, O' k ≠ .none → O k ≠ .none ∨ w.heap.size ≤ k) ∧ Touch (fun k => O k ≠ .none) w w' := by
  have few := hok.few
  obtain ⟨srow0, hsr0⟩ : ∃ x, m.seen[0]? = some x := ⟨_, List.getElem?_eq_getElem hok.pos⟩
  obtain ⟨g1, cap1, _, hL1, _, _, _, _, _⟩ := h.row (t := 1) (by omega) (G1_at hsr0)
  rw [G1_len] at hL1
  have HL1 := Lib.hid hL1
  have c1 := h.cell 1 (by omega)
  rw [hL1] at c1
  have HH := Lib.hid h
  have HO := Lib.hid hO
  have HKS := Lib.hid hks
  have HOK := Lib.hid hok
  have HWL := Lib.hid hwl
  clear h hO hks hok hL1 hsr0 hwl
  generalize hR : m.seen.length = R at *
  generalize hKL : ks.length = kl at *
  have HR := Lib.hid hR
  have HKL := Lib.hid hKL
  clear hR hKL
  go_enter Try.func19, Try.ntmps19
  go_wp2_with fail
  clear c1
  go_loopw [4] (fun i wr => ∃ k : Nat, i = .int .i64 k ∧ k ≤ R ∧ ∃ O1, (RAt wr O1 hp L (m.crashN ks k).G m.left ∧ (∀ q, O1 q ≠ .none → q < wr.heap.size) ∧ (∀ q, O1 q ≠ .none → O q ≠ .none ∨ w.heap.size ≤ q)) ∧ Touch (fun k => O k ≠ .none) w wr) (fun i _ => R - (intOf i).toNat)
  case atStart => exact ⟨0, rfl, Nat.zero_le _, O, ⟨HH.out, HO.out, fun q hq => Or.inl hq⟩, Touch.refl _ _⟩
  case round =>
    obtain ⟨k, rfl, hk, O1, hd, ht⟩ := hrel
    obtain ⟨w5, rfl⟩ : ∃ w5, w5 = wr := ⟨wr, rfl⟩
    have hc1 := hd.1.cell 1 (by omega)
    rw [HL1.out] at hc1
    have HD := Lib.hid hd
    have HT := Lib.hid ht
    clear hd ht
    by_cases hlt : k < R
    · go_upto_if 19 with fail
      go_cut [4, 5] (fun s4 s5 wx => ∃ (A' : Option Addr) (c' : Nat) (text : List Int), s4 = .int .i64 k ∧ s5 = .slice A' text.length c' ∧ Hid (text = ks.getD k []) ∧ wx = w5 ∧ Hid (AllB text ∧ text.length ≤ 9223372036854775807 ∧ ∀ W, Touch (fun k => O k ≠ .none) w W → Byt W A' text))
      case first =>
        by_cases hkl2 : k < kl
        · obtain ⟨bs, hbs⟩ : ∃ bs, ks[k]? = some bs := ⟨_, List.getElem?_eq_getElem (by rw [HKL.out]; exact hkl2)⟩
          obtain ⟨a, A', c', rfl, h1, h3, h4, h5⟩ := HKS.out k bs hbs
          have hcell : w5.cell? (a.add k) = some (.slice A' bs.length c') := (h1 w5 HT.out).1
          have HM := Lib.hid (And.intro h3 (And.intro (show bs.length ≤ 9223372036854775807 by omega) (fun W hW => (h1 W hW).2)))
          have hkk : (k : Int) < kl := by omega
          have HGB : Hid (bs = ks.getD k []) := by show _ = _; rw [List.getD, hbs]; rfl
          clear h1 h3 hbs
          go_wp2
          rename_i hJc hKc
          first | refine hJc _ _ ?_ | refine hKc _ _ ?_
          repeat apply Exists.intro
          exact ⟨⟨A', c', bs, rfl, rfl, HGB, rfl, HM⟩, rfl⟩
        · have hgd : ks.getD k [] = [] := by rw [List.getD, List.getElem?_eq_none (by rw [HKL.out]; omega)]; rfl
          have HGD := Lib.hid hgd
          clear hgd
          have hkk : ¬ (k : Int) < kl := by omega
          go_wp2
          rename_i hJc hKc
          first | refine hJc _ _ ?_ | refine hKc _ _ ?_
          repeat apply Exists.intro
          exact ⟨⟨none, 0, [], rfl, rfl, HGD.out.symm, rfl, Lib.hid ⟨(fun x hx => by cases hx), by simp, fun W hW i x hx => by cases hx⟩⟩, rfl⟩
      case rest =>
        obtain ⟨A', c', text, rfl, rfl, HTX, hwx, HM⟩ := hcut
        have hwx := hwx.symm
        subst hwx
        obtain ⟨mk, hmk⟩ : ∃ x, x = m.crashN ks k := ⟨_, rfl⟩
        have hok := RM.crashN_ok HOK.out ks k (by rw [HR.out]; omega)
        have hln := (RM.crashN_len m ks k).1
        rw [← hmk] at hok hln
        rw [HR.out] at hln
        rw [← hmk] at HD
        have HMK := Lib.hid hmk
        clear hmk
        obtain ⟨wrow, hwr⟩ : ∃ x, mk.wait[k]? = some x := ⟨_, List.getElem?_eq_getElem (by rw [hok.waitLen, hln]; exact hlt)⟩
        obtain ⟨srow, hsr⟩ : ∃ x, mk.sure[k]? = some x := ⟨_, List.getElem?_eq_getElem (by rw [hok.sureLen, hln]; exact hlt)⟩
        obtain ⟨⟨nrow, hnr, hsl⟩, _⟩ := hok.sures k srow hsr
        have hspos : 0 < srow.length := by rw [hsl]; exact (hok.rows k nrow hnr).2.1
        have hsle : srow.length ≤ 1000 := by rw [hsl]; exact (hok.rows k nrow hnr).1
        have hwt : ∀ p ∈ wrow, p.1 < srow.length := fun p hp => by
          obtain ⟨⟨row', h1, h2⟩, _⟩ := hok.waits k wrow hwr p hp
          rw [hnr] at h1; injection h1 with h1; subst h1; omega
        have hwl : wrow.length ≤ 1000000 := HWL.out k wrow (by rw [← RM.crashN_wait m ks k k (Nat.le_refl _), ← HMK.out]; exact hwr)
        obtain ⟨g0, cap0, u0, hL0, ho0, hg0, hcu0, _, hru0⟩ := HD.out.1.row (t := 0) (by omega) (G0_at hsr)
        obtain ⟨g2, cap2, u2, hL2, ho2, hg2, hcu2, _, hru2⟩ := HD.out.1.row (t := 2) (by omega) (G2_at hwr)
        have hL0' := hL0
        have hL2' := hL2
        rw [G0_len hok, hln] at hL0'
        rw [G2_len hok, hln] at hL2'
        rw [List.length_map] at hru2
        obtain ⟨W, hW⟩ : ∃ n, n = wrow.length := ⟨_, rfl⟩
        rw [← hW] at hru2 hwl
        have HW := Lib.hid hW
        obtain ⟨A2, c2, rfl, _, _⟩ := hru2.val
        have HRU2 := Lib.hid hru2
        have HL0 := Lib.hid hL0
        have HL0' := Lib.hid hL0'
        have HL2' := Lib.hid hL2'
        have HO0 := Lib.hid ho0
        have HO2 := Lib.hid ho2
        have HCU2 := Lib.hid hcu2
        have HOKk := Lib.hid hok
        have HSR := Lib.hid hsr
        have HWR := Lib.hid hwr
        have HWT := Lib.hid hwt
        have HLN := Lib.hid hln
        obtain ⟨tl, htl⟩ : ∃ n, n = text.length := ⟨_, rfl⟩
        rw [← htl]
        have HTL := Lib.hid htl
        obtain ⟨sl, hsl2⟩ : ∃ n, n = srow.length := ⟨_, rfl⟩
        rw [← hsl2] at hsle hspos
        have HSL := Lib.hid hsl2
        clear hW hru2 hL0 hL0' hL2 hL2' ho0 ho2 hcu2 hok hsr hwr hwt hln htl hru0 hcu0 hg0 hg2 hnr hsl hsl2
        have d2 := HD.out.1.cell 2 (by omega)
        rw [HL2'.out] at d2
        have e2 := HCU2.out
        have hkR : (k : Int) < R := by omega
        go_wp2_with fail
        clear d2 e2
        go_loopw [6] (fun i wr => ∃ j : Nat, i = .int .i64 j ∧ j ≤ W ∧ RAt wr O1 hp L (mk.setl k text j).G m.left ∧ Touch (fun q => O1 q = .row 0 k) w5 wr) (fun i _ => W - (intOf i).toNat)
        case atStart => exact ⟨0, rfl, Nat.zero_le _, by rw [RM.setl_zero HSR.out]; exact HD.out.1, Touch.refl _ _⟩
        case round =>
          obtain ⟨j, rfl, hj, hd2, ht2⟩ := hrel
          obtain ⟨w6, rfl⟩ : ∃ w6, w6 = wr := ⟨wr, rfl⟩
          have d0 := hd2.cell 0 (by omega)
          rw [HL0'.out] at d0
          have d2 := hd2.cell 2 (by omega)
          rw [HL2'.out] at d2
          have e2 : w6.cell? ⟨g2, k, none⟩ = some (.slice A2 W c2) := keepT ht2 HCU2.out (by show ¬ O1 g2 = _; rw [HO2.out]; simp)
          have HD2 := Lib.hid hd2
          have HT2 := Lib.hid ht2
          have HTW : Hid (Touch (fun k => O k ≠ .none) w w6) := HT.out.trans' ht2 fun x hx => HD.out.2.2 x (by rw [hx]; simp)
          clear hd2 ht2
          by_cases hjl : j < W
          · have hj8 : j / 8 ≤ 1000000 := by omega
            have hdv := i64_div8 j (by omega)
            obtain ⟨p, hp⟩ : ∃ p, wrow[j]? = some p := ⟨_, List.getElem?_eq_getElem (by rw [← HW.out]; exact hjl)⟩
            have HP := Lib.hid hp
            clear hp
            have hstep : ∀ b, bitAt text j = b → mk.setl k text (j + 1) = if b then { mk.setl k text j with sure := (mk.setl k text j).sure.set k ((setlRow text wrow j srow).set p.1 p.2) } else mk.setl k text j := fun b hb => by
              rw [← hb]; exact RM.setl_step text j HSR.out HWR.out HP.out
            have HST := Lib.hid hstep
            clear hstep
            by_cases h8 : j / 8 < tl
            · obtain ⟨x, hx⟩ : ∃ x, text[j / 8]? = some x := ⟨_, List.getElem?_eq_getElem (by rw [← HTL.out]; exact h8)⟩
              obtain ⟨a, rfl, hcx⟩ := HM.out.2.2 w6 HTW.out _ _ hx
              have hb := HM.out.1 x (List.mem_of_getElem? hx)
              have hbit : bitAt text j = (bits .and .u8 (x / 2 ^ (j % 8)) 1 == 1) := by
                unfold bitAt
                rw [hx]
                have := shr_lt x (j % 8) hb
                rw [u8_and1 _ this.1 this.2]
              have HX := Lib.hid hx
              clear hx
              cases hq : (bits .and .u8 (x / 2 ^ (j % 8)) 1 == 1)
              · rw [hq] at hbit
                have hs := HST.out _ hbit
                rw [if_neg (by simp)] at hs
                have HS := Lib.hid hs
                clear hs hbit
                go_wp2_with fail
                go_roundw
                case rel => exact ⟨j + 1, by go_num, by omega, by rw [HS.out]; exact HD2.out, HT2.out⟩
                case measure => simp [intOf]; omega
              · rw [hq] at hbit
                have hs := HST.out _ hbit
                rw [if_pos rfl] at hs
                have HS := Lib.hid hs
                clear hs hbit
                obtain ⟨gw, cw, ew, how, hgw, _, _, hcells, _⟩ := HRU2.out.pos (by omega)
                injection ew with ew1 _ ew3
                subst ew1
                have hpa := pen_at wrow j p HP.out
                have f1 : w6.cell? ⟨gw, j * 2, none⟩ = some (.int .i64 (p.1 : Int)) := keepT HT2.out ((hcells (j * 2) (by show _ < W * 2; omega)).trans hpa.1) (by show ¬ O1 gw = _; rw [how]; simp)
                have f2 : w6.cell? ⟨gw, j * 2 + 1, none⟩ = some (.string (strOfNums p.2)) := keepT HT2.out ((hcells (j * 2 + 1) (by show _ < W * 2; omega)).trans hpa.2) (by show ¬ O1 gw = _; rw [how]; simp)
                have hps : p.1 < sl := by rw [HSL.out]; exact HWT.out p (List.mem_of_getElem? HP.out)
                have hpi : (p.1 : Int) < sl := by omega
                have hji : (j : Int) < W := by omega
                obtain ⟨q1, cq1, hcq, ⟨v1, hv1⟩, hf1, hoq1, hst1⟩ := HD2.out.stored1 (t := 0) (by omega) (by omega) (G0_at (RM.setl_at text j HSR.out HWR.out)) (i := p.1) (by rw [setlRow_len, ← HSL.out]; exact hps) (g := g0) (cap := cap0) (by rw [RM.setl_len0, HL0'.out, HOKk.out.sureLen, HLN.out]) p.2
                rw [G_sure, ← HS.out] at hst1
                rw [setlRow_len, ← HSL.out] at hcq
                have HS1 := Lib.hid hst1
                have HOQ := Lib.hid hoq1
                clear hst1 hoq1 hcells hpa how hgw ew3
                obtain ⟨pi, hpi'⟩ : ∃ n, n = p.1 := ⟨_, rfl⟩
                obtain ⟨pb, hpb'⟩ : ∃ n, n = strOfNums p.2 := ⟨_, rfl⟩
                rw [← hpi'] at f1 hps hpi hv1 hf1 HS1
                rw [← hpb'] at f2 HS1
                clear hpi' hpb'
                go_upto_region 10 with fail
                clear hcx hdv hj8
                go_still_tail 30, (by kernel_rfl)
                change wpList _ _ _ _ _ w6.drew
                have HS2 : Hid (RAt ((w6.drew).setCell ⟨q1, pi, none⟩ (.string pb)) O1 hp L (mk.setl k text (j + 1)).G m.left) := HS1.out.below (bdn (Below.refl _ _) 1)
                have HT3 : Hid (Touch (fun q => O1 q = .row 0 k) w5 ((w6.drew).setCell ⟨q1, pi, none⟩ (.string pb))) := (HT2.out.drew).setCell (p := ⟨q1, pi, none⟩) HOQ.out _
                have hv2 : w6.drew.cell? ⟨q1, pi, none⟩ = some v1 := hv1
                have hf2 : w6.drew.frozen? ⟨q1, pi, none⟩ = false := hf1
                clear hv1 hf1 HS1 f1 f2 hcq d0 d2 e2
                generalize w6.drew = wD at *
                go_wp2_with fail
                go_roundw
                case rel => exact ⟨j + 1, by go_num, by omega, HS2.out, HT3.out⟩
                case measure => simp [intOf]; omega
            · have hbit : bitAt text j = false := by unfold bitAt; rw [List.getElem?_eq_none (by rw [← HTL.out]; omega)]
              have hs := HST.out _ hbit
              rw [if_neg (by simp)] at hs
              have HS := Lib.hid hs
              clear hs hbit
              go_wp2_with fail
              go_roundw
              case rel => exact ⟨j + 1, by go_num, by omega, by rw [HS.out]; exact HD2.out, HT2.out⟩
              case measure => simp [intOf]; omega
          · obtain rfl : j = W := by omega
            go_upto_region 11 with fail
            obtain ⟨S, hS⟩ : ∃ x, x = setlRow text wrow j srow := ⟨_, rfl⟩
            obtain ⟨mz, hmz⟩ : ∃ x, x = mk.setl k text j := ⟨_, rfl⟩
            have hzs : mz.sure[k]? = some S := by rw [hmz, hS]; exact RM.setl_at text j HSR.out HWR.out
            have hzseen : mz.seen = mk.seen := by rw [hmz]; rfl
            have hzwait : mz.wait = mk.wait := by rw [hmz]; rfl
            have hSl : S.length = sl := by rw [hS, setlRow_len, HSL.out]
            have h := HD2.out
            rw [← hmz] at h
            obtain ⟨nrow, hnr⟩ : ∃ x, mz.seen[k]? = some x := ⟨_, List.getElem?_eq_getElem (by rw [hzseen, HLN.out]; exact hlt)⟩
            have hwz : mz.wait[k]? = some wrow := by rw [hzwait]; exact HWR.out
            have L0 : L 0 = .slice (some ⟨g0, 0, none⟩) (mz.G 0).length cap0 := by rw [HL0'.out, hmz, RM.setl_len0, HOKk.out.sureLen, HLN.out]
            have L1 : L 1 = .slice (some ⟨g1, 0, none⟩) (mz.G 1).length cap1 := by rw [HL1.out, G1_len, hzseen, HLN.out]
            have L2 : L 2 = .slice (some ⟨g2, 0, none⟩) (mz.G 2).length cap2 := by rw [HL2'.out]; unfold RM.G; simp [hzwait, HOKk.out.waitLen, HLN.out]
            obtain ⟨u0, _, hg0, hcu0, hfu0, hru0⟩ := h.rowL (t := 0) (by omega) (G0_at hzs) HL0'.out
            obtain ⟨u1, ho1, hg1, hcu1, hfu1, hru1⟩ := h.rowL (t := 1) (by omega) (G1_at hnr) HL1.out
            obtain ⟨u2, ho2, hg2, hcu2, hfu2, _⟩ := h.rowL (t := 2) (by omega) (G2_at hwz) HL2'.out
            have C0 := h.cell 0 (by omega)
            have C1 := h.cell 1 (by omega)
            have C2 := h.cell 2 (by omega)
            rw [HL0'.out] at C0
            rw [HL1.out] at C1
            rw [HL2'.out] at C2
            rw [List.length_map, flat_str] at hru0
            have hO1s : ∀ q, O1 q ≠ .none → q < w6.heap.size := fun q hq => Nat.lt_of_lt_of_le (HD.out.2.1 q hq) HT2.out.size
            have HFIN : Hid (∀ W3 A9 c9, Below w6.heap.size w6 W3 → RowAt W3 (fun q => w6.heap.size ≤ q) 9 1 (.slice A9 S.length c9) S.length (sv S) →
                ∃ O3, (RAt ((W3.setCell ⟨g1, k, none⟩ (.slice A9 S.length c9)).setCell ⟨g2, k, none⟩ (.slice none 0 0)) O3 hp L (m.crashN ks (k + 1)).G m.left ∧ (∀ q, O3 q ≠ .none → q < ((W3.setCell ⟨g1, k, none⟩ (.slice A9 S.length c9)).setCell ⟨g2, k, none⟩ (.slice none 0 0)).heap.size) ∧ (∀ q, O3 q ≠ .none → O q ≠ .none ∨ w.heap.size ≤ q)) ∧
                  Touch (fun k => O k ≠ .none) w ((W3.setCell ⟨g1, k, none⟩ (.slice A9 S.length c9)).setCell ⟨g2, k, none⟩ (.slice none 0 0)) ∧
                  (W3.setCell ⟨g1, k, none⟩ (.slice A9 S.length c9)).cell? ⟨g2, k, none⟩ = some u2 ∧ (W3.setCell ⟨g1, k, none⟩ (.slice A9 S.length c9)).frozen? ⟨g2, k, none⟩ = false) := by
              intro W3 A9 c9 hb13 hrow3
              have hrow3' : RowAt W3 (fun q => O1 q = .row 1 k ∨ w6.heap.size ≤ q) (rER 1) (rSz 1) (.slice A9 S.length c9) (S.map strE).length (S.map strE).flatten := by
                rw [List.length_map, flat_str]
                exact hrow3.owner fun q _ hq => Or.inr hq
              obtain ⟨r1, r2, r3⟩ := h.putRow hO1s (t := 1) (by omega) (row' := S.map strE) (G1_at hnr) L1 (Touch.of_below hb13 _) hrow3'
              rw [G_seen] at r1
              obtain ⟨O2, hO2⟩ : ∃ x, x = rOwn O1 w6.heap.size 1 k (.slice A9 S.length c9) := ⟨_, rfl⟩
              rw [← hO2] at r1 r2 r3
              have r2' : ∀ q, O2 q ≠ .none → q < (W3.setCell ⟨g1, k, none⟩ (.slice A9 S.length c9)).heap.size := fun q hq => by have := r2 q hq; simpa using this
              obtain ⟨s1, s2, s3⟩ := r1.putRow r2' (t := 2) (by omega) (row := wrow.map penE) (row' := ([] : List (Nat × List Int)).map penE) (G2_at (m := { mz with seen := mz.seen.set k S }) hwz) (u' := .slice none 0 0) (g := g2) (cap := cap2) L2 (Touch.refl _ _) (RowAt.nil _ _ _ _)
              rw [G_wait] at s1
              have hg12 : g2 ≠ g1 := fun e => by rw [e, ho1] at ho2; injection ho2 with h9; cases h9
              have hg3s : w6.heap.size ≤ W3.heap.size := hb13.size
              have c31 : W3.cell? ⟨g1, k, none⟩ = some u1 := by rw [hb13.cell hg1]; exact hcu1
              have f31 : W3.frozen? ⟨g1, k, none⟩ = false := by rw [hb13.frozen hg1]; exact hfu1
              have c32 : (W3.setCell ⟨g1, k, none⟩ (.slice A9 S.length c9)).cell? ⟨g2, k, none⟩ = some u2 := by
                rw [World.cell?_of_block (w := W3) (by show (W3.setCell ⟨g1, k, none⟩ _).heap[g2]? = W3.heap[g2]?; exact Below.heap_setCell _ _ _ _ hg12), hb13.cell hg2]; exact hcu2
              have f32 : (W3.setCell ⟨g1, k, none⟩ (.slice A9 S.length c9)).frozen? ⟨g2, k, none⟩ = false := by
                rw [World.frozen?_of_block (w := W3) (by show (W3.setCell ⟨g1, k, none⟩ _).heap[g2]? = W3.heap[g2]?; exact Below.heap_setCell _ _ _ _ hg12), hb13.frozen hg2]; exact hfu2
              have hTq : Touch (fun q => q = g1 ∨ q = g2) w6 ((W3.setCell ⟨g1, k, none⟩ (.slice A9 S.length c9)).setCell ⟨g2, k, none⟩ (.slice none 0 0)) := ((Touch.of_below hb13 _).setCell (p := ⟨g1, k, none⟩) (Or.inl rfl) _).setCell (p := ⟨g2, k, none⟩) (Or.inr rfl) _
              have hT0 : Hid (Touch (fun k => O k ≠ .none) w ((W3.setCell ⟨g1, k, none⟩ (.slice A9 S.length c9)).setCell ⟨g2, k, none⟩ (.slice none 0 0))) := HTW.out.trans' hTq fun x hx => HD.out.2.2 x (by
                rcases hx with rfl | rfl
                · rw [ho1]; simp
                · rw [ho2]; simp)
              have s2' : ∀ q, rOwn O2 (W3.setCell ⟨g1, k, none⟩ (.slice A9 S.length c9)).heap.size 2 k (.slice none 0 0) q ≠ .none → q < ((W3.setCell ⟨g1, k, none⟩ (.slice A9 S.length c9)).setCell ⟨g2, k, none⟩ (.slice none 0 0)).heap.size := fun q hq => by have := s2 q hq; simpa using this
              have s3' : ∀ q, rOwn O2 (W3.setCell ⟨g1, k, none⟩ (.slice A9 S.length c9)).heap.size 2 k (.slice none 0 0) q ≠ .none → O q ≠ .none ∨ w.heap.size ≤ q := fun q hq => by
                rcases s3 q hq with h9 | h9
                · rcases r3 q h9 with h8 | h8
                  · exact HD.out.2.2 q h8
                  · exact Or.inr (Nat.le_trans HTW.out.size h8)
                · exact Or.inr (by
                    have h10 : (W3.setCell ⟨g1, k, none⟩ (.slice A9 S.length c9)).heap.size = W3.heap.size := by simp
                    have := HTW.out.size
                    omega)
              have ew : mk.wait.getD k [] = wrow := by rw [List.getD, HWR.out]; rfl
              have es : mk.sure.getD k [] = srow := by rw [List.getD, HSR.out]; rfl
              have e1 : m.crashN ks (k + 1) = { mz with seen := mz.seen.set k S, wait := mz.wait.set k [] } := by
                show (m.crashN ks k).crash1 k (ks.getD k []) = _
                rw [← HMK.out, ← HTX.out]
                unfold RM.crash1
                rw [ew, es, ← HW.out, ← hS, hmz]
                unfold RM.setl
                rw [ew, es, ← hS]
              rw [← e1] at s1
              exact ⟨_, ⟨s1, s2', s3'⟩, hT0.out, c32, f32⟩
            have HC0 : Hid (∀ W, Below w6.heap.size w6 W → W.cell? ⟨hp, 0, none⟩ = some (.slice (some ⟨g0, 0, none⟩) R cap0)) := fun W hW => keepC hW C0
            have HC1 : Hid (∀ W, Below w6.heap.size w6 W → W.cell? ⟨hp, 1, none⟩ = some (.slice (some ⟨g1, 0, none⟩) R cap1)) := fun W hW => keepC hW C1
            have HC2 : Hid (∀ W, Below w6.heap.size w6 W → W.cell? ⟨hp, 2, none⟩ = some (.slice (some ⟨g2, 0, none⟩) R cap2)) := fun W hW => keepC hW C2
            have HCU : Hid (∀ W, Below w6.heap.size w6 W → W.cell? ⟨g0, k, none⟩ = some u0) := fun W hW => keepC hW hcu0
            have HCP := Lib.hid (fun W (hW : Below w6.heap.size w6 W) => hru0.below hW)
            have HCV : Hid (∀ W, Below w6.heap.size w6 W → W.cell? ⟨g1, k, none⟩ = some u1 ∧ W.frozen? ⟨g1, k, none⟩ = false) := fun W hW => ⟨keepC hW hcu1, by rw [hW.frozen hg1]; exact hfu1⟩
            have HSP : Hid (0 < S.length ∧ S.length ≤ 1000) := ⟨by omega, by omega⟩
            have HG1 := Lib.hid hg1
            clear hSl h hru0 hru1 L0 L1 L2 hO1s hcu0 hfu0 hcu2 hfu2 hcu1 hfu1 hg0 hg1 hg2 ho1 ho2 hnr hwz hzs hzseen hzwait d0 d2 e2 hmz hS C0 C1 C2
            refine wp_region_rgj (VC11 hp k g0 g1 g2 w6.heap.size R cap0 cap1 cap2 S.length u0 (sv S)) (JC11 w6.heap.size g1 k S.length (sv S) w6) (fun i => SC11 g1 i) (by kernel_rfl) (by kernel_rfl) (fun i j v w w' _ h hs => h.on HG1.out hs) (Or.inl ⟨rfl, (Below.refl _ _).drew⟩) ?_
            simp only [RAll]
            refine ⟨?_, ?_, ?_, ?_, ?_, ?_, ?_, ?_, ?_, ?_, ?_, ?_, ?_, ?_, ?_, ?_, ?_, ?_, ?_, ?_, ?_, ?_, ?_⟩
            · refine RStepJ.of rfl fun T W Ls hag hni hJ hdn hd => ?_
              have e0 : T.getD 0 undef = _ := (agree_at hag 0 (by kernel_rfl)).trans rfl
              clear hag hd hdn
              go_simp
              exact ⟨_, rfl, rfl, hJ.add' 0 (by decide), SC11.refl _ _ (by decide)⟩
            · refine RStepJ.of rfl fun T W Ls hag hni hJ hdn hd => ?_
              have d83 : T.getD 83 undef = _ := hd ⟨0, .data⟩ (by simp) rfl _ rfl
              clear hag hd hdn
              go_simp
              exact ⟨_, rfl, rfl, hJ.add' 1 (by decide), SC11.refl _ _ (by decide)⟩
            · refine RStepJ.of rfl fun T W Ls hag hni hJ hdn hd => ?_
              have d84 : T.getD 84 undef = _ := hd ⟨1, .data⟩ (by simp) rfl _ rfl
              clear hag hd hdn
              go_simp
              exact ⟨_, rfl, rfl, hJ.add' 2 (by decide), SC11.refl _ _ (by decide)⟩
            · refine RStepJ.of rfl fun T W Ls hag hni hJ hdn hd => ?_
              have d85 : T.getD 85 undef = _ := hd ⟨2, .data⟩ (by simp) rfl _ rfl
              have hw := hJ.fresh 3 (by decide) hni
              have fct0 := HC1.out W hw
              clear hag hd hdn
              go_simp
              exact ⟨_, rfl, rfl, hJ.add' 3 (by decide), SC11.refl _ _ (by decide)⟩
            · refine RStepJ.of rfl fun T W Ls hag hni hJ hdn hd => ?_
              have e4 : T.getD 4 undef = _ := (agree_at hag 4 (by kernel_rfl)).trans rfl
              clear hag hd hdn
              go_simp
              exact ⟨_, rfl, rfl, hJ.add' 4 (by decide), SC11.refl _ _ (by decide)⟩
            · refine RStepJ.of rfl fun T W Ls hag hni hJ hdn hd => ?_
              have e0 : T.getD 0 undef = _ := (agree_at hag 0 (by kernel_rfl)).trans rfl
              clear hag hd hdn
              go_simp
              exact ⟨_, rfl, rfl, hJ.add' 5 (by decide), SC11.refl _ _ (by decide)⟩
            · refine RStepJ.of rfl fun T W Ls hag hni hJ hdn hd => ?_
              have d88 : T.getD 88 undef = _ := hd ⟨5, .data⟩ (by simp) rfl _ rfl
              clear hag hd hdn
              go_simp
              exact ⟨_, rfl, rfl, hJ.add' 6 (by decide), SC11.refl _ _ (by decide)⟩
            · refine RStepJ.of rfl fun T W Ls hag hni hJ hdn hd => ?_
              have d89 : T.getD 89 undef = _ := hd ⟨6, .data⟩ (by simp) rfl _ rfl
              clear hag hd hdn
              go_simp
              exact ⟨_, rfl, rfl, hJ.add' 7 (by decide), SC11.refl _ _ (by decide)⟩
            · refine RStepJ.of rfl fun T W Ls hag hni hJ hdn hd => ?_
              have d90 : T.getD 90 undef = _ := hd ⟨7, .data⟩ (by simp) rfl _ rfl
              have hw := hJ.fresh 8 (by decide) hni
              have fct0 := HC2.out W hw
              clear hag hd hdn
              go_simp
              exact ⟨_, rfl, rfl, hJ.add' 8 (by decide), SC11.refl _ _ (by decide)⟩
            · refine RStepJ.of rfl fun T W Ls hag hni hJ hdn hd => ?_
              have e4 : T.getD 4 undef = _ := (agree_at hag 4 (by kernel_rfl)).trans rfl
              clear hag hd hdn
              go_simp
              exact ⟨_, rfl, rfl, hJ.add' 9 (by decide), SC11.refl _ _ (by decide)⟩
            · refine RStepJ.of rfl fun T W Ls hag hni hJ hdn hd => ?_
              clear hag hd hdn
              go_simp
              have hw := hJ.fresh 10 (by decide) hni
              exact ⟨_, rfl, ⟨W.heap.size, rfl, hw.size, heap_alloc_new W _⟩, hJ.grow' 10 (by decide) hni (hw.alloc hw.size _), SC11.grown (by decide) (World.grownBy_alloc W _ _)⟩
            · refine RStepJ.of rfl fun T W Ls hag hni hJ hdn hd => ?_
              have e0 : T.getD 0 undef = _ := (agree_at hag 0 (by kernel_rfl)).trans rfl
              clear hag hd hdn
              go_simp
              exact ⟨_, rfl, rfl, hJ.add' 11 (by decide), SC11.refl _ _ (by decide)⟩
            · refine RStepJ.of rfl fun T W Ls hag hni hJ hdn hd => ?_
              have d94 : T.getD 94 undef = _ := hd ⟨11, .data⟩ (by simp) rfl _ rfl
              clear hag hd hdn
              go_simp
              exact ⟨_, rfl, rfl, hJ.add' 12 (by decide), SC11.refl _ _ (by decide)⟩
            · refine RStepJ.of rfl fun T W Ls hag hni hJ hdn hd => ?_
              have d95 : T.getD 95 undef = _ := hd ⟨12, .data⟩ (by simp) rfl _ rfl
              clear hag hd hdn
              go_simp
              exact ⟨_, rfl, rfl, hJ.add' 13 (by decide), SC11.refl _ _ (by decide)⟩
            · refine RStepJ.of rfl fun T W Ls hag hni hJ hdn hd => ?_
              have d96 : T.getD 96 undef = _ := hd ⟨13, .data⟩ (by simp) rfl _ rfl
              have hw := hJ.fresh 14 (by decide) hni
              have fct0 := HC0.out W hw
              clear hag hd hdn
              go_simp
              exact ⟨_, rfl, rfl, hJ.add' 14 (by decide), SC11.refl _ _ (by decide)⟩
            · refine RStepJ.of rfl fun T W Ls hag hni hJ hdn hd => ?_
              have e4 : T.getD 4 undef = _ := (agree_at hag 4 (by kernel_rfl)).trans rfl
              clear hag hd hdn
              go_simp
              exact ⟨_, rfl, rfl, hJ.add' 15 (by decide), SC11.refl _ _ (by decide)⟩
            · refine RStepJ.of rfl fun T W Ls hag hni hJ hdn hd => ?_
              have d97 : T.getD 97 undef = _ := hd ⟨14, .data⟩ (by simp) rfl _ rfl
              have d98 : T.getD 98 undef = _ := hd ⟨15, .data⟩ (by simp) rfl _ rfl
              clear hag hd hdn
              go_simp
              exact ⟨_, rfl, rfl, hJ.add' 16 (by decide), SC11.refl _ _ (by decide)⟩
            · refine RStepJ.of rfl fun T W Ls hag hni hJ hdn hd => ?_
              have d99 : T.getD 99 undef = _ := hd ⟨16, .data⟩ (by simp) rfl _ rfl
              have hw := hJ.fresh 17 (by decide) hni
              have fct0 := HCU.out W hw
              clear hag hd hdn
              go_simp
              exact ⟨_, rfl, rfl, hJ.add' 17 (by decide), SC11.refl _ _ (by decide)⟩
            · refine RStepJ.of rfl fun T W Ls hag hni hJ hdn hd => ?_
              have x93 := hd ⟨10, .data⟩ (by simp) rfl _ rfl
              have d100 : T.getD 100 undef = _ := hd ⟨17, .data⟩ (by simp) rfl _ rfl
              have hw := hJ.fresh 18 (by decide) hni
              obtain ⟨q, (e93 : T.getD 93 undef = _), hq, hqc⟩ := x93
              obtain ⟨v', W2, hrun, hrow, hb, hsl⟩ := copy_run (HCP.out W hw) HSP.out.1 HSP.out.2 (sv_one S) q hqc 69
              refine wp_app_run (.tmp 93) (.tmp 100) 69 69 rfl _ _ v' W2 e93 d100 hrun ?_
              exact ⟨_, rfl, ⟨hrow.owner (fun k _ hk => Nat.le_trans hw.size hk), hsl⟩, hJ.grow (by decide) hni (hw.trans (hb.mono hw.size)), SC11.grown (by decide) (growN hb)⟩
            · refine RStepJ.of rfl fun T W Ls hag hni hJ hdn hd => ?_
              have d86 : T.getD 86 undef = _ := hd ⟨3, .data⟩ (by simp) rfl _ rfl
              have d87 : T.getD 87 undef = _ := hd ⟨4, .data⟩ (by simp) rfl _ rfl
              clear hag hd hdn
              go_simp
              exact ⟨_, rfl, rfl, hJ.add' 19 (by decide), SC11.refl _ _ (by decide)⟩
            · refine RStepJ.of rfl fun T W Ls hag hni hJ hdn hd => ?_
              have d102 : T.getD 102 undef = _ := hd ⟨19, .data⟩ (by simp) rfl _ rfl
              have x101 := hd ⟨18, .data⟩ (by simp) rfl _ rfl
              have hw := hJ.fresh 20 (by decide) hni
              obtain ⟨hrow, A9, c9, (e101 : T.getD 101 undef = _)⟩ := x101
              have hrow' : RowAt W (fun q => w6.heap.size ≤ q) 9 1 (T.getD 101 undef) S.length (sv S) := hrow
              rw [e101] at hrow'
              have cs1 := HCV.out W hw
              have hdeps := And.intro (hdn ⟨3, .phase⟩ (by simp) rfl) (And.intro (hdn ⟨8, .phase⟩ (by simp) rfl) (And.intro (hdn ⟨10, .phase⟩ (by simp) rfl) (And.intro (hdn ⟨14, .phase⟩ (by simp) rfl) (And.intro (hdn ⟨17, .phase⟩ (by simp) rfl) (hdn ⟨18, .data⟩ (by simp) rfl)))))
              have HJ2 : Hid (JC11 w6.heap.size g1 k S.length (sv S) w6 (fun j => decide (20 = j) || Ls j) (W.setCell ⟨g1, k, none⟩ (.slice A9 S.length c9))) := Or.inr ⟨by simp, by simpa using hdeps, W, _, hw, hrow', ⟨_, _, rfl⟩, rfl⟩
              have cc := cs1.1
              have cf := cs1.2
              rw [Array.getD_eq_getD_getElem?] at e101
              clear hag hd hdn hrow hrow' cs1 hdeps
              go_simp
              exact ⟨trivial, HJ2.out, SC11.set _⟩
            · refine RStepJ.of rfl fun T W Ls hag hni hJ hdn hd => ?_
              have d91 : T.getD 91 undef = _ := hd ⟨8, .data⟩ (by simp) rfl _ rfl
              have d92 : T.getD 92 undef = _ := hd ⟨9, .data⟩ (by simp) rfl _ rfl
              clear hag hd hdn
              go_simp
              exact ⟨_, rfl, rfl, hJ.add' 21 (by decide), SC11.refl _ _ (by decide)⟩
            · refine RLastJ.of rfl fun T W Ls hag hall hni hJ hd => ?_
              have d103 : T.getD 103 undef = _ := hd 21 _ (by simp) rfl
              obtain ⟨W3, v9, hb3, hrow3, ⟨A9, c9, rfl⟩, rfl⟩ := hJ.done (hall 20 (by decide))
              obtain ⟨O3, hfin, hct, hcc, hcf⟩ := HFIN.out W3 A9 c9 hb3 hrow3
              have HF := Lib.hid hfin
              have HTT := Lib.hid hct
              obtain ⟨f, hf, hT⟩ := agree_fn hag
              have h103 := (hf 103).trans d103
              clear hag hd d103 hf hb3 hrow3 hfin hct hJ hall hni
              rw [hT]
              clear hT
              simp only [List.filterMap_cons, List.filterMap_nil, List.foldl_cons, List.foldl_nil, List.setIfInBounds_toArray, List.set_cons_succ, List.set_cons_zero, h103]
              go_wp2_with fail
              go_roundw
              case rel => exact ⟨k + 1, by go_num, by omega, _, HF.out, HTT.out⟩
              case measure => simp [intOf]; omega
    · obtain rfl : k = R := by omega
      have hc4 := HD.out.1.c4
      have hfr := HD.out.1.free 4
      go_wp2_with fail
      go_end0
      refine ⟨rfl, O1, ?_, ?_, HD.out.2.2, ?_⟩
      · unfold RM.crash; rw [HR.out]; exact HD.out.1.setLeft (-1)
      · intro q hq; have := HD.out.2.1 q hq; simpa using this
      · exact HT.out.setCell (p := ⟨hp, 4, none⟩) (by show O hp ≠ .none; rw [HH.out.ohd]; simp) _
end
end Go.Proofs.Ytocmjbfbjiinhaa

/- The reference's device, from the device. -/
namespace Go.Proofs.Ytocmjbfbjiinhaa
open Go.ChangeShapes Go.WideShapes Go.ChangeAt Go.RowKit
set_option linter.unusedVariables false
def ownL (l : List Wr) (r : Nat) : List (Nat × List Int) := (l.filter (fun x => x.r == r)).map fun x => (x.i, x.b)
def own (m : DM) (r : Nat) : List (Nat × List Int) := ownL (since m r) r
def refLeft (m : DM) : Int := if m.stops then (m.left : Int) else -1
/-- What the reference has, of a device. -/
def refOf (m : DM) : RM := { sure := m.sure, seen := m.now, wait := (List.range m.now.length).map (own m), traces := (List.range m.now.length).map (traceL m), left := refLeft m }
theorem range_map_at {α : Type} {n k : Nat} (f : Nat → α) (h : k < n) : ((List.range n).map f)[k]? = some (f k) := by
  rw [List.getElem?_map, List.getElem?_range h]; rfl
theorem range_map_set {α : Type} {n r : Nat} (f g : Nat → α) (x : α) (hr : r < n) (h1 : g r = x) (h2 : ∀ k, k < n → k ≠ r → g k = f k) : (List.range n).map g = ((List.range n).map f).set r x := by
  apply List.ext_getElem?
  intro k
  rw [List.getElem?_set]
  by_cases hk : k < n
  · rw [range_map_at g hk]
    by_cases e : r = k
    · subst e; rw [if_pos rfl, if_pos (by simpa using hk), h1]
    · rw [if_neg e, range_map_at f hk, h2 k hk (Ne.symm e)]
  · rw [List.getElem?_eq_none (by simpa using hk)]
    rw [if_neg (by omega), List.getElem?_eq_none (by simpa using hk)]
theorem ext_getD {α : Type} {l1 l2 : List (List α)} (hl : l1.length = l2.length) (h : ∀ k, l1.getD k [] = l2.getD k []) : l1 = l2 := by
  apply List.ext_getElem hl
  intro k h1 h2
  have := h k
  rw [List.getD, List.getD, List.getElem?_eq_getElem h1, List.getElem?_eq_getElem h2] at this
  exact this
theorem getD_set_row {α : Type} (l : List (List α)) (r : Nat) (x : List α) (hr : r < l.length) (k : Nat) : (l.set r x).getD k [] = if k = r then x else l.getD k [] := by
  rw [List.getD, List.getElem?_set]
  by_cases e : r = k
  · subst e; rw [if_pos rfl, if_pos hr, if_pos rfl]; rfl
  · rw [if_neg e, if_neg (Ne.symm e)]; rfl
theorem ownL_snoc (l : List Wr) (x : Wr) (r : Nat) : ownL (l ++ [x]) r = ownL l r ++ (if x.r = r then [(x.i, x.b)] else []) := by
  unfold ownL
  rw [List.filter_append, List.map_append]
  congr 1
  by_cases e : x.r = r
  · rw [if_pos e]; simp [e]
  · rw [if_neg e]; simp [e]
theorem traceL_snoc (m : DM) (x : Wr) (r : Nat) : ((m.done ++ [x]).filter (fun y => y.r == r)).map traceB = traceL m r ++ (if x.r = r then [traceB x] else []) := by
  unfold traceL
  rw [List.filter_append, List.map_append]
  congr 1
  by_cases e : x.r = r
  · rw [if_pos e]; simp [e]
  · rw [if_neg e]; simp [e]
theorem ownL_len (l : List Wr) (r : Nat) : (ownL l r).length = pend l r := by unfold ownL pend; rw [List.length_map]
theorem own_len (m : DM) (r : Nat) : (own m r).length ≤ m.done.length := by unfold own; rw [ownL_len]; exact pend_le m r
/-- What survives. -/
theorem setlRow_app (bs : List Int) (wt : List (Nat × List Int)) (p : Nat × List Int) : ∀ n s, n ≤ wt.length → setlRow bs (wt ++ [p]) n s = setlRow bs wt n s
  | 0, _, _ => rfl
  | n + 1, s, h => by
    unfold setlRow
    rw [setlRow_app bs wt p n s (by omega), List.getElem?_append_left (by omega)]
theorem snocInd {α : Type} {P : List α → Prop} (h0 : P []) (h1 : ∀ l x, P l → P (l ++ [x])) (l : List α) : P l := by
  rw [← List.reverse_reverse l]
  induction l.reverse with
  | nil => exact h0
  | cons x l ih => rw [List.reverse_cons]; exact h1 _ _ ih
theorem rowW_own (r : Nat) (bs : List Int) (s : List (List Int)) (l : List Wr) : (∀ x ∈ l, x.r = r → x.i ≠ 65535) → rowW l r (bitAt bs) 0 s = setlRow bs (ownL l r) (ownL l r).length s := by
  refine snocInd (P := fun l => (∀ x ∈ l, x.r = r → x.i ≠ 65535) → rowW l r (bitAt bs) 0 s = setlRow bs (ownL l r) (ownL l r).length s) (fun _ => rfl) (fun l x ih h => ?_) l
  have hc : ∀ y ∈ l, y.r = r → y.i ≠ 65535 := fun y hy => h y (List.mem_append_left _ hy)
  have ih := ih hc
  rw [ownL_snoc]
  by_cases e : x.r = r
  · rw [if_pos e, rowW_snoc l x r _ hc e (h x (by simp) e), Nat.zero_add, ih, List.length_append]
    show _ = setlRow bs (ownL l r ++ [(x.i, x.b)]) ((ownL l r).length + 1) s
    rw [setlRow, setlRow_app _ _ _ _ _ (Nat.le_refl _), List.getElem?_append_right (Nat.le_refl _), Nat.sub_self, ownL_len]
    rfl
  · rw [if_neg e, rowW_skip l x r _ (Or.inl e), ih, List.append_nil]
section
variable {m : DM}
theorem ref_write (hm : m.Ok) {r i : Nat} (b : List Int) (hr : r < m.now.length) (hi : i ≤ 1000) (hst : stopped m = false) : refOf (m.write r i b) = (refOf m).write r i b := by
  have hl : (m.write r i b).now.length = m.now.length := by show (setAt _ _ _ _).length = _; unfold setAt; simp
  have e1 : (List.range (m.write r i b).now.length).map (own (m.write r i b)) = ((refOf m).wait).set r ((refOf m).wait.getD r [] ++ [(i, b)]) := by
    rw [hl]
    refine range_map_set (own m) _ _ hr ?_ fun k hk hne => ?_
    · unfold own
      rw [since_write hm hr, ownL_snoc, if_pos rfl]
      congr 1
      rw [List.getD]; unfold refOf; rw [range_map_at _ hr]; rfl
    · unfold own
      rw [since_write hm hk, ownL_snoc, if_neg (Ne.symm hne), List.append_nil]
  have e2 : (List.range (m.write r i b).now.length).map (traceL (m.write r i b)) = ((refOf m).traces).set r ((refOf m).traces.getD r [] ++ [((i / 256 : Nat) : Int) :: ((i % 256 : Nat) : Int) :: b]) := by
    rw [hl]
    refine range_map_set (traceL m) _ _ hr ?_ fun k hk hne => ?_
    · show ((m.done ++ [(⟨r, i, b⟩ : Wr)]).filter (fun y => y.r == r)).map traceB = _
      rw [traceL_snoc, if_pos rfl]
      have e3 : traceB ⟨r, i, b⟩ = ((i / 256 : Nat) : Int) :: ((i % 256 : Nat) : Int) :: b := by
        unfold traceB
        rw [if_neg (by show ¬ i = 65535; omega)]
        rfl
      rw [e3]
      congr 1
      rw [List.getD]; unfold refOf; rw [range_map_at _ hr]; rfl
    · show ((m.done ++ [(⟨r, i, b⟩ : Wr)]).filter (fun y => y.r == k)).map traceB = _
      rw [traceL_snoc, if_neg (Ne.symm hne), List.append_nil]
  have e4 : refLeft (m.write r i b) = max (refLeft m - 1) (-1) := by
    unfold refLeft
    show (if m.stops then (((if m.stops then m.left - 1 else m.left : Nat)) : Int) else -1) = _
    unfold stopped at hst
    cases hs : m.stops
    · rfl
    · rw [hs] at hst
      have : m.left ≠ 0 := by simpa using hst
      simp
      omega
  unfold RM.write
  rw [← e1, ← e2]
  show _ = RM.mk _ _ _ _ (max (refLeft m - 1) (-1))
  rw [← e4]
  rfl
theorem settle_len (m : DM) (r : Nat) (kept : Nat → Bool) (hm : m.Ok) : (m.settle r kept).sure.length = m.sure.length := by
  have : ∀ (l : List Wr) (nth : Nat) (s : List (List (List Int))), (settleW l r kept nth s).length = s.length := by
    intro l
    induction l with
    | nil => intro nth s; rfl
    | cons x l ih =>
      intro nth s
      unfold settleW
      split
      · split
        · rfl
        · rw [ih]; split
          · unfold setAt; simp
          · rfl
      · exact ih _ _
  exact this _ _ _
theorem ref_barrier (hm : m.Ok) (ht : Told m) {r : Nat} (hr : r < m.now.length) : refOf (m.barrier r) = (refOf m).barrier r := by
  obtain ⟨h1, h2, h3, h4, h5⟩ := barrier_rows ht hm hr
  have e0 : (m.barrier r).sure = m.sure.set r (m.now.getD r []) := by
    refine ext_getD ?_ fun k => ?_
    · rw [List.length_set]
      unfold DM.barrier
      exact settle_len _ _ _ (hm.tell hr)
    · rw [getD_set_row _ _ _ (by rw [hm.sureLen]; exact hr)]
      by_cases e : k = r
      · subst e; rw [if_pos rfl]; exact h1
      · rw [if_neg e]; exact h2 k e
  have e1 : (List.range m.now.length).map (own (m.barrier r)) = ((refOf m).wait).set r [] := by
    refine range_map_set (own m) _ _ hr ?_ fun k hk hne => ?_
    · unfold own; rw [h4]; rfl
    · unfold own
      rw [h5 k hk hne, ownL_snoc, if_neg (Ne.symm hne), List.append_nil]
  have e2 : (List.range m.now.length).map (traceL (m.barrier r)) = ((refOf m).traces).set r ((refOf m).traces.getD r [] ++ [[255, 255]]) := by
    refine range_map_set (traceL m) _ _ hr ?_ fun k hk hne => ?_
    · show ((m.done ++ [(⟨r, 65535, List.replicate 64 0⟩ : Wr)]).filter (fun y => y.r == r)).map traceB = _
      rw [traceL_snoc, if_pos rfl]
      have e3 : traceB ⟨r, 65535, List.replicate 64 0⟩ = [255, 255] := by
        unfold traceB
        rw [if_pos rfl]
        simp
      rw [e3]
      congr 1
      rw [List.getD]; unfold refOf; rw [range_map_at _ hr]; rfl
    · show ((m.done ++ [(⟨r, 65535, List.replicate 64 0⟩ : Wr)]).filter (fun y => y.r == k)).map traceB = _
      rw [traceL_snoc, if_neg (Ne.symm hne), List.append_nil]
  unfold RM.barrier
  rw [← e1, ← e2]
  show RM.mk (m.barrier r).sure _ _ _ _ = RM.mk (m.sure.set r (m.now.getD r [])) _ _ _ _
  rw [e0]
  rfl
theorem ref_crash1 (hm : m.Ok) {r : Nat} (hc : ∀ x ∈ since m r, x.r = r → x.i ≠ 65535) (hr : r < m.now.length) (bs : List Int) : refOf (m.crash1 r bs) = (refOf m).crash1 r bs := by
  have hw : (refOf m).wait.getD r [] = own m r := by rw [List.getD]; unfold refOf; rw [range_map_at _ hr]; rfl
  have hrow : sureRow (m.settle r (bitAt bs)) r = setlRow bs (own m r) (own m r).length (m.sure.getD r []) := by
    rw [settle_same, rowW_own r bs _ _ hc]; rfl
  have e0 : (m.settle r (bitAt bs)).sure = m.sure.set r (setlRow bs (own m r) (own m r).length (m.sure.getD r [])) := by
    refine ext_getD ?_ fun k => ?_
    · rw [List.length_set]; exact settle_len _ _ _ hm
    · rw [getD_set_row _ _ _ (by rw [hm.sureLen]; exact hr)]
      by_cases e : k = r
      · subst e; rw [if_pos rfl]; exact hrow
      · rw [if_neg e]; exact (settle_other m r (bitAt bs) e).1
  have hl : (m.crash1 r bs).now.length = m.now.length := by unfold DM.crash1; simp
  have hs : since (m.crash1 r bs) r = [] := by
    show since (m.settle r (bitAt bs)) r = []
    exact settle_since hm hr _
  have e1 : (List.range (m.crash1 r bs).now.length).map (own (m.crash1 r bs)) = ((refOf m).wait).set r [] := by
    rw [hl]
    refine range_map_set (own m) _ _ hr ?_ fun k hk hne => ?_
    · unfold own; rw [hs]; rfl
    · unfold own; rw [(crash1_other m r bs hne).2.2]
  have e2 : (List.range (m.crash1 r bs).now.length).map (traceL (m.crash1 r bs)) = (refOf m).traces := by rw [hl]; rfl
  unfold RM.crash1
  rw [hw]
  show RM.mk (m.settle r (bitAt bs)).sure (m.now.set r ((m.settle r (bitAt bs)).sure.getD r [])) _ _ _ = RM.mk (m.sure.set r (setlRow bs (own m r) (own m r).length (m.sure.getD r []))) (m.now.set r (setlRow bs (own m r) (own m r).length (m.sure.getD r []))) _ _ _
  rw [e1, e2, e0]
  rw [show (m.sure.set r (setlRow bs (own m r) (own m r).length (m.sure.getD r []))).getD r [] = setlRow bs (own m r) (own m r).length (m.sure.getD r []) from by rw [getD_set_row _ _ _ (by rw [hm.sureLen]; exact hr), if_pos rfl]]
  rfl
theorem crashN_len2 (m : DM) (ks : List (List Int)) (n : Nat) : (crashN m ks n).now.length = m.now.length := (crashN_len m ks n).1
end
end Go.Proofs.Ytocmjbfbjiinhaa

/- What is so of a device and of the reference beside it, whatever is done. -/
namespace Go.Proofs.Ytocmjbfbjiinhaa
open Go.ChangeShapes Go.WideShapes Go.ChangeAt Go.RowKit
set_option linter.unusedVariables false
structure RelOk (m : DM) : Prop where
  told : Told m
  pos : ∀ z ∈ dims m, 0 < z
theorem dims_at {m : DM} {r : Nat} {row : List (List Int)} (h : m.now[r]? = some row) : row.length ∈ dims m := by unfold dims; exact List.mem_map.2 ⟨row, List.mem_of_getElem? h, rfl⟩
theorem own_mem {m : DM} {r : Nat} {p : Nat × List Int} (h : p ∈ own m r) : ∃ x ∈ since m r, x.r = r ∧ p = (x.i, x.b) := by
  unfold own ownL at h
  obtain ⟨x, hx, rfl⟩ := List.mem_map.1 h
  obtain ⟨h1, h2⟩ := List.mem_filter.1 hx
  exact ⟨x, h1, by simpa using h2, rfl⟩
theorem RelOk.ok {m : DM} (h : RelOk m) (hm : m.Ok) : (refOf m).Ok where
  pos := hm.pos
  few := hm.few
  sureLen := hm.sureLen
  waitLen := by unfold refOf; simp
  trLen := by unfold refOf; simp
  rows := fun r row hr => ⟨(hm.rows r row hr).1, h.pos _ (dims_at hr), (hm.rows r row hr).2⟩
  sures := hm.sures
  waits := fun r row hr => by
    have hr' : ((List.range m.now.length).map (own m))[r]? = some row := hr
    have hlt : r < m.now.length := by have := (List.getElem?_eq_some_iff.1 hr').1; simpa using this
    rw [range_map_at _ hlt] at hr'
    injection hr' with hr'; subst hr'
    intro p hp
    obtain ⟨x, hx, hxr, rfl⟩ := own_mem hp
    obtain ⟨⟨row, h1, h2⟩, h3⟩ := hm.dones x (List.mem_of_mem_drop hx)
    refine ⟨⟨row, by rw [← hxr]; exact h1, ?_⟩, h3⟩
    rcases h2 with h2 | h2
    · exact h2
    · exact absurd h2 (h.told.clean r hlt x hx hxr)
  left := by
    have := hm.left
    show -1 ≤ refLeft m ∧ refLeft m ≤ 9223372036854775807
    unfold refLeft
    split <;> omega
section
variable {m : DM}
theorem RelOk.write (h : RelOk m) (hm : m.Ok) (r i : Nat) (b : List Int) (hi : i ≤ 1000) : RelOk (m.write r i b) := ⟨h.told.write hm r i b (by omega), by rw [dims_write]; exact h.pos⟩
theorem RelOk.barrier (h : RelOk m) (hm : m.Ok) {r : Nat} (hr : r < m.now.length) : RelOk (m.barrier r) := ⟨h.told.barrier hm hr, h.pos⟩
theorem RelOk.stop (h : RelOk m) (n : Int) : RelOk (m.stop n) := ⟨⟨h.told.clean, h.told.full⟩, h.pos⟩
theorem crashN_sure (h : m.Ok) (ks : List (List Int)) : ∀ n, n ≤ m.now.length → ∀ r, r < n → sureRow (crashN m ks n) r = nowRow (crashN m ks n) r ∧ since (crashN m ks n) r = []
  | 0, _, r, hr => by omega
  | n + 1, hn, r, hr => by
    have hok := crashN_ok h ks n (by omega)
    have hl := crashN_len2 m ks n
    show sureRow ((crashN m ks n).crash1 n (ks.getD n [])) r = nowRow ((crashN m ks n).crash1 n (ks.getD n [])) r ∧ since ((crashN m ks n).crash1 n (ks.getD n [])) r = []
    by_cases e : r = n
    · subst e
      refine ⟨?_, settle_since hok (by omega) (bitAt (ks.getD r []))⟩
      show _ = ((crashN m ks r).now.set r (((crashN m ks r).settle r (bitAt (ks.getD r []))).sure.getD r [])).getD r []
      rw [getD_set_row _ _ _ (by omega), if_pos rfl]
      rfl
    · obtain ⟨h1, h2, h3⟩ := crash1_other (crashN m ks n) n (ks.getD n []) e
      obtain ⟨h4, h5⟩ := crashN_sure h ks n (by omega) r (by omega)
      exact ⟨h2.trans (h4.trans h1.symm), h3.trans h5⟩
theorem Told.crash (hm : m.Ok) (ks : List (List Int)) : Told (m.crash ks) where
  clean := fun r hr x hx => by
    rw [crash_len] at hr
    have : since (m.crash ks) r = [] := (crashN_sure hm ks _ (Nat.le_refl _) r hr).2
    rw [this] at hx; cases hx
  full := fun r hr => by
    rw [crash_len] at hr
    have : since (m.crash ks) r = [] := (crashN_sure hm ks _ (Nat.le_refl _) r hr).2
    rw [this]
    exact (crashN_sure hm ks _ (Nat.le_refl _) r hr).1
theorem RelOk.crash (h : RelOk m) (hm : m.Ok) (ks : List (List Int)) : RelOk (m.crash ks) := ⟨Told.crash hm ks, by rw [dims_crash hm]; exact h.pos⟩
theorem ref_crashN (hm : m.Ok) (ht : Told m) (ks : List (List Int)) : ∀ n, n ≤ m.now.length → refOf (crashN m ks n) = (refOf m).crashN ks n
  | 0, _ => rfl
  | n + 1, hn => by
    have hok := crashN_ok hm ks n (by omega)
    have hl := crashN_len2 m ks n
    show refOf ((crashN m ks n).crash1 n (ks.getD n [])) = ((refOf m).crashN ks n).crash1 n (ks.getD n [])
    rw [← ref_crashN hm ht ks n (by omega)]
    refine ref_crash1 hok ?_ (by omega) _
    rw [((crashN_rows hm ks n (by omega)).2 n (Nat.le_refl _)).2.2]
    exact ht.clean n (by omega)
theorem ref_stop (m : DM) (n : Int) : refOf (m.stop n) = { refOf m with left := max n (-1) } := by
  have e : refLeft (m.stop n) = max n (-1) := by
    unfold refLeft
    show (if decide (0 ≤ n) = true then ((n.toNat : Nat) : Int) else -1) = _
    by_cases h : 0 ≤ n
    · rw [if_pos (decide_eq_true h)]; omega
    · rw [if_neg (by simpa using h)]; omega
  unfold refOf
  rw [e]
  rfl
theorem ref_crash (hm : m.Ok) (ht : Told m) (ks : List (List Int)) : refOf (m.crash ks) = (refOf m).crash ks := by
  unfold DM.crash
  rw [ref_stop, ref_crashN hm ht ks _ (Nat.le_refl _)]
  rfl
def RM.make (zs : List Int) : RM := { sure := zs.map zeroRow, seen := zs.map zeroRow, wait := List.replicate zs.length [], traces := List.replicate zs.length [], left := -1 }
theorem ref_make (zs : List Int) : refOf (DM.make zs) = RM.make zs := by
  have e : ∀ {α : Type} (f : Nat → List α), (∀ k, f k = []) → (List.range (zs.map zeroRow).length).map f = List.replicate zs.length [] := fun f h => by
    rw [List.eq_replicate_iff]
    refine ⟨by simp, fun b hb => ?_⟩
    obtain ⟨k, _, rfl⟩ := List.mem_map.1 hb
    exact h k
  unfold refOf RM.make
  show RM.mk _ _ ((List.range (zs.map zeroRow).length).map (own (DM.make zs))) ((List.range (zs.map zeroRow).length).map (traceL (DM.make zs))) _ = _
  rw [e _ fun k => by unfold own since DM.make; simp [ownL], e _ fun k => by unfold traceL DM.make; rfl]
  rfl
theorem RelOk.make {zs : List Int} (h : mayV zs = true) : RelOk (DM.make zs) := by
  refine ⟨Told.make zs, fun z hz => ?_⟩
  unfold mayV at h
  simp only [Bool.and_eq_true, decide_eq_true_eq, Bool.not_eq_true', List.any_eq_false, badSize, Bool.or_eq_true, not_or] at h
  obtain ⟨h1, h2, h3⟩ := h
  unfold dims DM.make at hz
  obtain ⟨row, hrow, rfl⟩ := List.mem_map.1 hz
  obtain ⟨y, hy, rfl⟩ := List.mem_map.1 hrow
  have := h3 y hy
  unfold zeroRow
  rw [List.length_replicate]; omega
theorem is_has (m : DM) (r i : Int) : (refOf m).is r i = hasB m r i := by
  unfold RM.is hasB hasR RM.rowLen
  rfl
theorem left_zero (m : DM) : (refOf m).left = 0 ↔ stopped m = true := by
  show refLeft m = 0 ↔ _
  unfold refLeft stopped
  cases m.stops
  · simp
  · simp
end
end Go.Proofs.Ytocmjbfbjiinhaa

/- The reference's device that a device tells: contracts, whatever is asked. -/
namespace Go.Proofs.Ytocmjbfbjiinhaa
open Go.ChangeShapes Go.WideShapes Go.ChangeAt Go.RowKit
set_option linter.unusedVariables false
/-- Bytes that lie apart from F, whatever is done to it. -/
def BytF (w : World) (F : Nat → Prop) (A : Option Addr) (bs : List Int) : Prop := ∀ W, Touch F w W → Byt W A bs
theorem RefStep.refl {w : World} {F : Nat → Prop} {hp : Nat} {G : Nat → RTab} {l : Int} (h : Ref w F hp G l) : RefStep w w F hp G l := ⟨F, h, Touch.refl _ _, fun k hk => Or.inl hk⟩
/-- What the reference's Barrier does where it does it: proved apart (rbar_yes). -/
def RBar : Prop := ∀ (w : World) (O : Nat → RRole) (hp : Nat) (L : Nat → Value) (m : RM), RAt w O hp L m.G m.left → (∀ k, O k ≠ .none → k < w.heap.size) → ∀ r : Nat, m.Ok → r < m.seen.length → m.left ≠ 0 → (m.traces.getD r []).length ≤ 1000 →
    Calls Try.prog 14 #[.pointer (some ⟨hp, 0, none⟩), .int .i64 r] w fun e w' => e = .returned (.bool true) ∧ ∃ O' , RAt w' O' hp L (m.barrier r).G (m.barrier r).left ∧ (∀ k, O' k ≠ .none → k < w'.heap.size) ∧ (∀ k, O' k ≠ .none → O k ≠ .none ∨ w.heap.size ≤ k) ∧ Touch (fun k => O k ≠ .none) w w'
def RAns (m : DM) (r i : Int) (v : Value) (w : World) : Prop :=
  (hasB m r i = false ∧ v = .tuple #[.slice none 0 0, .bool false]) ∨
  (hasB m r i = true ∧ ∃ (g c : Nat) (b : List Int), (m.now.getD r.toNat [])[i.toNat]? = some b ∧ BlkOk b ∧ v = .tuple #[.slice (some ⟨g, 0, none⟩) 64 c, .bool true] ∧ Byt w (some ⟨g, 0, none⟩) b)
section
variable {W : World} {F : Nat → Prop} {hp : Nat} {m : DM}
theorem refstep_of {O : Nat → RRole} {L : Nat → Value} {w' : World} {O' : Nat → RRole} {G : Nat → RTab} {l : Int} (h2 : ∀ k, F k ↔ O k ≠ RRole.none) (n1 : RAt w' O' hp L G l) (n2 : ∀ k, O' k ≠ .none → k < w'.heap.size) (n3 : ∀ k, O' k ≠ .none → O k ≠ .none ∨ W.heap.size ≤ k) (n4 : Touch (fun k => O k ≠ .none) W w') : RefStep W w' F hp G l :=
  ⟨fun k => O' k ≠ .none, ⟨O', L, n1, fun k => Iff.rfl, n2⟩, n4.mono' (fun x hx => (h2 x).2 hx), fun k hk => (n3 k hk).imp (h2 k).2 id⟩
theorem rwrite_any (h : Ref W F hp (refOf m).G (refOf m).left) (hm : m.Ok) (hrel : RelOk m) (r i : Int) (hr : i64 r) (hi : i64 i) (A : Option Addr) (bs : List Int) (c : Nat) (hB : AllB bs) (hy : BytF W F A bs) (hl : bs.length ≤ 1000000) (hmax : m.done.length ≤ 1000) :
    Calls Try.prog 24 #[.pointer (some ⟨hp, 0, none⟩), .int .i64 r, .int .i64 i, .slice A bs.length c] W fun e w' => e = .returned (.bool (okWrite m r i bs)) ∧ RefStep W w' F hp (refOf (m.doWrite r i bs)).G (refOf (m.doWrite r i bs)).left := by
  obtain ⟨O, L, h1, h2, h3⟩ := h
  have hO : ∀ k, O k ≠ .none → k < W.heap.size := fun k hk => h3 k ((h2 k).2 hk)
  have hok := hrel.ok hm
  have href : RefStep W W F hp (refOf m).G (refOf m).left := RefStep.refl ⟨O, L, h1, h2, h3⟩
  cases hb : okWrite m r i bs
  · have hd : m.doWrite r i bs = m := by
      unfold DM.doWrite
      rw [if_neg]
      rintro ⟨g1, g2, g3⟩
      unfold okWrite at hb
      rw [g1, g2] at hb
      cases hb
    rw [hd]
    refine (rwrite_no h1 r i hr hi hok A bs.length c (by rw [is_has]; exact hb) hl).mono ?_
    rintro e w' ⟨rfl, rfl⟩
    exact ⟨rfl, href⟩
  · unfold okWrite at hb
    obtain ⟨g1, g2⟩ : hasB m r i = true ∧ bs.length = 64 := by simpa using hb
    rw [g2]
    cases hst : stopped m
    · have hd : m.doWrite r i bs = m.write r.toNat i.toNat bs := by unfold DM.doWrite; rw [if_pos ⟨g1, g2, hst⟩]
      rw [hd]
      obtain ⟨rn, j, row, rfl, rfl, hrow, hj⟩ := hasB_row g1
      rw [Int.toNat_natCast, Int.toNat_natCast]
      have hrl := (List.getElem?_eq_some_iff.1 hrow).1
      rw [ref_write hm bs hrl (by have := (hm.rows _ _ hrow).1; omega) hst]
      refine (rwrite_yes h1 hO rn j hok A c bs ⟨g2, hB⟩ (fun W' hW => hy W' (hW.mono' fun x hx => (h2 x).2 hx)) hrow hj (by intro e; rw [left_zero, hst] at e; cases e) ?_).mono ?_
      · have e1 : (refOf m).wait.getD rn [] = own m rn := by rw [List.getD]; unfold refOf; rw [range_map_at _ hrl]; rfl
        have e2 : (refOf m).traces.getD rn [] = traceL m rn := by rw [List.getD]; unfold refOf; rw [range_map_at _ hrl]; rfl
        rw [e1, e2]
        exact ⟨Nat.le_trans (own_len m rn) hmax, Nat.le_trans (tr_len m rn) hmax⟩
      · rintro e w' ⟨rfl, O', n1, n2, n3, n4⟩
        exact ⟨rfl, refstep_of h2 n1 n2 n3 n4⟩
    · have hd : m.doWrite r i bs = m := by unfold DM.doWrite; rw [if_neg]; rintro ⟨_, _, g3⟩; rw [hst] at g3; cases g3
      rw [hd]
      refine (rwrite_stopped h1 r i hr hi hok A c (by rw [is_has]; exact g1) ((left_zero m).2 hst)).mono ?_
      rintro e w' ⟨rfl, rfl⟩
      exact ⟨rfl, href⟩
theorem rbar_any (HRB : RBar) (h : Ref W F hp (refOf m).G (refOf m).left) (hm : m.Ok) (hrel : RelOk m) (r : Int) (hr : i64 r) (hmax : m.done.length ≤ 1000) :
    Calls Try.prog 14 #[.pointer (some ⟨hp, 0, none⟩), .int .i64 r] W fun e w' => e = .returned (.bool (hasR m r)) ∧ RefStep W w' F hp (refOf (m.doBarrier r)).G (refOf (m.doBarrier r)).left := by
  obtain ⟨O, L, h1, h2, h3⟩ := h
  have hO : ∀ k, O k ≠ .none → k < W.heap.size := fun k hk => h3 k ((h2 k).2 hk)
  have hok := hrel.ok hm
  have href : RefStep W W F hp (refOf m).G (refOf m).left := RefStep.refl ⟨O, L, h1, h2, h3⟩
  have hR : (refOf m).hasR r = hasR m r := rfl
  cases hb : hasR m r
  · have hd : m.doBarrier r = m := by unfold DM.doBarrier; rw [hb, if_neg (by simp)]
    rw [hd]
    refine (rbar_no h1 r hr hok (hR.trans hb)).mono ?_
    rintro e w' ⟨rfl, rfl⟩
    exact ⟨rfl, href⟩
  · cases hst : stopped m
    · have hd : m.doBarrier r = m.barrier r.toNat := by unfold DM.doBarrier; rw [if_pos ⟨hb, hst⟩]
      rw [hd]
      have hb' := hb
      unfold hasR at hb'
      simp only [Bool.and_eq_true, decide_eq_true_eq] at hb'
      obtain ⟨rn, rfl⟩ : ∃ n : Nat, r = (n : Int) := ⟨r.toNat, by omega⟩
      have hrl : rn < m.now.length := by omega
      rw [Int.toNat_natCast, ref_barrier hm hrel.told hrl]
      refine (HRB _ _ _ _ _ h1 hO rn hok hrl (by intro e; rw [left_zero, hst] at e; cases e) ?_).mono ?_
      · have e2 : (refOf m).traces.getD rn [] = traceL m rn := by rw [List.getD]; unfold refOf; rw [range_map_at _ hrl]; rfl
        rw [e2]
        exact Nat.le_trans (tr_len m rn) hmax
      · rintro e w' ⟨rfl, O', n1, n2, n3, n4⟩
        exact ⟨rfl, refstep_of h2 n1 n2 n3 n4⟩
    · have hd : m.doBarrier r = m := by unfold DM.doBarrier; rw [if_neg]; rintro ⟨_, g3⟩; rw [hst] at g3; cases g3
      rw [hd]
      refine (rbar_stopped h1 r hr hok (hR.trans hb) ((left_zero m).2 hst)).mono ?_
      rintro e w' ⟨rfl, rfl⟩
      exact ⟨rfl, href⟩
theorem rstop_any2 (h : Ref W F hp (refOf m).G (refOf m).left) (n : Int) (hn : i64 n) :
    Calls Try.prog 16 #[.pointer (some ⟨hp, 0, none⟩), .int .i64 n] W fun e w' => e = .returned (.tuple #[]) ∧ RefStep W w' F hp (refOf (m.stop n)).G (refOf (m.stop n)).left := by
  obtain ⟨O, L, h1, h2, h3⟩ := h
  rw [ref_stop]
  refine (rstop_any h1 n hn).mono ?_
  rintro e w' ⟨rfl, n1, n2⟩
  refine ⟨rfl, refstep_of h2 n1 (fun k hk => Nat.lt_of_lt_of_le (h3 k ((h2 k).2 hk)) n2.size) (fun k hk => Or.inl hk) (n2.mono' fun x hx => ?_)⟩
  subst hx
  rw [h1.ohd]; simp
theorem rcrash_any2 (h : Ref W F hp (refOf m).G (refOf m).left) (hm : m.Ok) (hrel : RelOk m) (A : Option Addr) (ks : List (List Int)) (c : Nat) (hks : TxtsF W F A ks) (hkl : ks.length ≤ 1000000) (hmax : m.done.length ≤ 1000) :
    Calls Try.prog 19 #[.pointer (some ⟨hp, 0, none⟩), .slice A ks.length c] W fun e w' => e = .returned (.tuple #[]) ∧ RefStep W w' F hp (refOf (m.crash ks)).G (refOf (m.crash ks)).left := by
  obtain ⟨O, L, h1, h2, h3⟩ := h
  have hO : ∀ k, O k ≠ .none → k < W.heap.size := fun k hk => h3 k ((h2 k).2 hk)
  have hok := hrel.ok hm
  rw [ref_crash hm hrel.told]
  refine (rcrash_any h1 hO hok A ks c (fun i bs hi => ?_) hkl (fun r row hrow => ?_)).mono ?_
  · obtain ⟨a, A', c', e1, e2, e3⟩ := hks i bs hi
    exact ⟨a, A', c', e1, fun W' hW => e2 W' (hW.mono' fun x hx => (h2 x).2 hx), e3⟩
  · have hr' : ((List.range m.now.length).map (own m))[r]? = some row := hrow
    have hlt : r < m.now.length := by have := (List.getElem?_eq_some_iff.1 hr').1; simpa using this
    rw [range_map_at _ hlt] at hr'
    injection hr' with hr'; subst hr'
    have := own_len m r
    omega
  · rintro e w' ⟨rfl, O', n1, n2, n3, n4⟩
    exact ⟨rfl, refstep_of h2 n1 n2 n3 n4⟩
theorem rread_any (h : Ref W F hp (refOf m).G (refOf m).left) (hm : m.Ok) (hrel : RelOk m) (r i : Int) (hr : i64 r) (hi : i64 i) :
    Calls Try.prog 27 #[.pointer (some ⟨hp, 0, none⟩), .int .i64 r, .int .i64 i] W fun e w' => (∃ v, e = .returned v ∧ RAns m r i v w') ∧ Below W.heap.size W w' := by
  obtain ⟨O, L, h1, h2, h3⟩ := h
  have hok := hrel.ok hm
  cases hb : hasB m r i
  · refine (rread_no h1 r i hr hi hok (by rw [is_has]; exact hb)).mono ?_
    rintro e w' ⟨rfl, rfl⟩
    exact ⟨⟨_, rfl, Or.inl ⟨hb, rfl⟩⟩, Below.refl _ _⟩
  · obtain ⟨rn, j, row, rfl, rfl, hrow, hj⟩ := hasB_row hb
    obtain ⟨b, hbk⟩ : ∃ b, row[j]? = some b := ⟨_, List.getElem?_eq_getElem hj⟩
    have hbo := (hm.rows _ _ hrow).2 b (List.mem_of_getElem? hbk)
    refine (rread_yes h1 rn j hok hrow hbk).mono ?_
    rintro e w' ⟨⟨g, c, rfl, hq⟩, hbel⟩
    rw [hbo.1]
    refine ⟨⟨_, rfl, Or.inr ⟨hb, g, c, b, ?_, hbo, rfl, hq⟩⟩, hbel⟩
    rw [Int.toNat_natCast, Int.toNat_natCast, List.getD, hrow]
    exact hbk
end
end Go.Proofs.Ytocmjbfbjiinhaa

/- A device and the reference's, beside protected blocks. -/
namespace Go.Proofs.Ytocmjbfbjiinhaa
open Go.ChangeShapes Go.WideShapes Go.ChangeAt Go.RowKit
set_option linter.unusedVariables false
structure Both (m : DM) : Prop where
  ok : m.Ok
  rel : RelOk m
theorem Both.write {m : DM} (h : Both m) (r i : Int) (bs : List Int) (hB : AllB bs) : Both (m.doWrite r i bs) := by
  unfold DM.doWrite
  split
  · rename_i hc
    obtain ⟨g1, g2, g3⟩ := hc
    obtain ⟨rn, j, row, rfl, rfl, hrow, hj⟩ := hasB_row g1
    rw [Int.toNat_natCast, Int.toNat_natCast]
    exact ⟨h.ok.write hrow hj ⟨g2, hB⟩, h.rel.write h.ok rn j bs (by have := (h.ok.rows _ _ hrow).1; omega)⟩
  · exact h
theorem Both.barrier {m : DM} (h : Both m) (r : Int) : Both (m.doBarrier r) := by
  unfold DM.doBarrier
  split
  · rename_i hc
    obtain ⟨hb, _⟩ := hc
    unfold hasR at hb
    simp only [Bool.and_eq_true, decide_eq_true_eq] at hb
    obtain ⟨rn, rfl⟩ : ∃ n : Nat, r = (n : Int) := ⟨r.toNat, by omega⟩
    rw [Int.toNat_natCast]
    have hrl : rn < m.now.length := by omega
    exact ⟨(h.ok.tell hrl).settle rn _, h.rel.barrier h.ok hrl⟩
  · exact h
theorem Both.stop {m : DM} (h : Both m) {n : Int} (hn : i64 n) (hn' : n ≤ 9223372036854775807) : Both (m.stop n) := ⟨h.ok.stop hn hn', h.rel.stop n⟩
theorem Both.crash {m : DM} (h : Both m) (ks : List (List Int)) : Both (m.crash ks) := ⟨crash_ok h.ok ks, h.rel.crash h.ok ks⟩
theorem Both.make {zs : List Int} (h : mayV zs = true) : Both (DM.make zs) := ⟨DM.make_ok h, RelOk.make h⟩
/-- A device that m tells, and the reference's that m2 tells. -/
structure DR (w0 W : World) (P : Nat → Prop) (q : Nat) (m : DM) (hh : Nat) (m2 : DM) : Prop where
  ex : ∃ FR, DS w0 W (fun k => P k ∨ FR k) q m ∧ Ref W FR hh (refOf m2).G (refOf m2).left ∧ (∀ k, FR k → w0.heap.size ≤ k) ∧ ∀ k, P k → ¬ FR k
  both : Both m2
section
variable {w0 W W' : World} {P : Nat → Prop} {q hh : Nat} {m m2 m' : DM}
theorem DR.bel (h : DR w0 W P q m hh m2) : Below w0.heap.size w0 W := by obtain ⟨FR, h1, _⟩ := h.ex; exact h1.bel
theorem DR.ok (h : DR w0 W P q m hh m2) : m.Ok := by obtain ⟨FR, h1, _⟩ := h.ex; exact h1.ok
theorem DR.low (h : DR w0 W P q m hh m2) : ∀ k, P k → k < W.heap.size := by obtain ⟨FR, h1, _⟩ := h.ex; exact fun k hk => h1.low k (Or.inl hk)
/-- Behind new blocks alone. -/
theorem DR.below {P' : Nat → Prop} (h : DR w0 W P q m hh m2) (hb : Below W.heap.size W W') (hP : ∀ k, P' k → P k ∨ (W.heap.size ≤ k ∧ k < W'.heap.size)) : DR w0 W' P' q m hh m2 := by
  obtain ⟨FR, h1, h2, h3, h4⟩ := h.ex
  refine ⟨⟨FR, h1.below hb (fun k hk => ?_), h2.below hb, h3, fun k hk hf => ?_⟩, h.both⟩
  · rcases hk with hk | hk
    · exact (hP k hk).imp Or.inl id
    · exact Or.inl (Or.inr hk)
  · rcases hP k hk with h5 | h5
    · exact h4 k h5 hf
    · obtain ⟨O, L, _, _, g3⟩ := h2
      have := g3 k hf; omega
theorem DR.same (h : DR w0 W P q m hh m2) (hb : Below W.heap.size W W') : Same P W W' := ⟨fun k hk => hb.block k (h.low k hk), hb.size⟩
/-- Behind a step of the device. -/
theorem DR.dev {FR : Nat → Prop} (h2 : Ref W FR hh (refOf m2).G (refOf m2).left) (h3 : ∀ k, FR k → w0.heap.size ≤ k) (h4 : ∀ k, P k → ¬ FR k) (hb : Both m2) (hd : DS w0 W' (fun k => P k ∨ FR k) q m') (hs : Same (fun k => P k ∨ FR k) W W') : DR w0 W' P q m' hh m2 ∧ Same P W W' :=
  ⟨⟨⟨FR, hd, h2.keep (fun k _ hf => hs.blk k (Or.inr hf)) hs.size, h3, h4⟩, hb⟩, ⟨fun k hk => hs.blk k (Or.inl hk), hs.size⟩⟩
/-- Behind a step of the reference. -/
theorem DR.step {m2' : DM} {FR : Nat → Prop} (h1 : DS w0 W (fun k => P k ∨ FR k) q m) (h2 : Ref W FR hh (refOf m2).G (refOf m2).left) (h3 : ∀ k, FR k → w0.heap.size ≤ k) (h4 : ∀ k, P k → ¬ FR k) (hb : Both m2') (hs : RefStep W W' FR hh (refOf m2').G (refOf m2').left) : DR w0 W' P q m hh m2' ∧ Same P W W' := by
  obtain ⟨F', g1, g2, g3⟩ := hs
  obtain ⟨F, d1, d2, d3⟩ := h1.dev
  have hlt : ∀ k, F k → k < W.heap.size := by obtain ⟨O, L, _, _, x⟩ := d1; exact x
  have hlt' : ∀ k, F' k → k < W'.heap.size := by obtain ⟨O, L, _, _, x⟩ := g1; exact x
  have hsz := h1.bel.size
  have hsm : Same P W W' := ⟨fun k hk => g2.block k (h1.low k (Or.inl hk)) (h4 k hk), g2.size⟩
  refine ⟨⟨⟨F', ⟨⟨F, d1.touch g2 (fun k hk hf => d3 k (Or.inr hf) hk), d2, fun k hk hf => ?_⟩, fun k hk => ?_, h1.bel.trans (g2.below hsz h3)⟩, g1, fun k hk => ?_, fun k hk hf => ?_⟩, hb⟩, hsm⟩
  · rcases hk with hk | hk
    · exact d3 k (Or.inl hk) hf
    · rcases g3 k hk with h5 | h5
      · exact d3 k (Or.inr h5) hf
      · have := hlt k hf; omega
  · rcases hk with hk | hk
    · exact Nat.lt_of_lt_of_le (h1.low k (Or.inl hk)) g2.size
    · exact hlt' k hk
  · rcases g3 k hk with h5 | h5
    · exact h3 k h5
    · omega
  · rcases g3 k hf with h5 | h5
    · exact h4 k hk h5
    · have := h1.low k (Or.inl hk); omega
theorem DR.write (h : DR w0 W P q m hh m2) (r i : Int) (hr : i64 r) (hi : i64 i) (A : Option Addr) (bs : List Int) (c : Nat) (hB : AllB bs) (hy : Byt W A bs) (hl : bs.length ≤ 1000000) (hmax : m.done.length ≤ 1000000) :
    Calls Try.prog 21 #[.pointer (some ⟨q, 0, none⟩), .int .i64 r, .int .i64 i, .slice A bs.length c] W fun e w' => e = .returned (.bool (okWrite m r i bs)) ∧ DR w0 w' P q (m.doWrite r i bs) hh m2 ∧ Same P W w' := by
  obtain ⟨FR, h1, h2, h3, h4⟩ := h.ex
  exact (h1.write r i hr hi A bs c hB hy hl hmax).mono fun e w' ⟨he, hd, hs⟩ => ⟨he, DR.dev h2 h3 h4 h.both hd hs⟩
theorem DR.barrier (h : DR w0 W P q m hh m2) (r : Int) (hr : i64 r) (hmax : m.done.length < 1000000) :
    Calls Try.prog 13 #[.pointer (some ⟨q, 0, none⟩), .int .i64 r] W fun e w' => e = .returned (.bool (hasR m r)) ∧ DR w0 w' P q (m.doBarrier r) hh m2 ∧ Same P W w' := by
  obtain ⟨FR, h1, h2, h3, h4⟩ := h.ex
  exact (h1.barrier r hr hmax).mono fun e w' ⟨he, hd, hs⟩ => ⟨he, DR.dev h2 h3 h4 h.both hd hs⟩
theorem DR.crash (h : DR w0 W P q m hh m2) (A : Option Addr) (ks : List (List Int)) (c : Nat) (hks : ∀ F, (∀ k, F k → w0.heap.size ≤ k) → (∀ k, P k → ¬ F k) → TxtsF W F A ks) (hkl : ks.length ≤ 1000000) (hmax : m.done.length ≤ 1000000) :
    Calls Try.prog 18 #[.pointer (some ⟨q, 0, none⟩), .slice A ks.length c] W fun e w' => e = .returned (.tuple #[]) ∧ DR w0 w' P q (m.crash ks) hh m2 ∧ Same P W w' := by
  obtain ⟨FR, h1, h2, h3, h4⟩ := h.ex
  exact (h1.crash A ks c (fun F f1 f2 => hks F f1 (fun k hk => f2 k (Or.inl hk))) hkl hmax).mono fun e w' ⟨he, hd, hs⟩ => ⟨he, DR.dev h2 h3 h4 h.both hd hs⟩
theorem DR.stop (h : DR w0 W P q m hh m2) (n : Int) (hn : i64 n) (hn' : n ≤ 9223372036854775807) :
    Calls Try.prog 15 #[.pointer (some ⟨q, 0, none⟩), .int .i64 n] W fun e w' => e = .returned (.tuple #[]) ∧ DR w0 w' P q (m.stop n) hh m2 ∧ Same P W w' := by
  obtain ⟨FR, h1, h2, h3, h4⟩ := h.ex
  exact (h1.stop n hn hn').mono fun e w' ⟨he, hd, hs⟩ => ⟨he, DR.dev h2 h3 h4 h.both hd hs⟩
theorem DR.read (h : DR w0 W P q m hh m2) (r i : Int) (hr : i64 r) (hi : i64 i) :
    Calls Try.prog 26 #[.pointer (some ⟨q, 0, none⟩), .int .i64 r, .int .i64 i] W fun e w' => (∃ v, e = .returned v ∧ ReadAns m r i W v w') ∧ Below W.heap.size W w' := by
  obtain ⟨FR, h1, _⟩ := h.ex
  exact h1.read r i hr hi
theorem DR.trace (h : DR w0 W P q m hh m2) (r : Nat) (hr : r < m.now.length) (hmax : m.done.length < 1000000) :
    Calls Try.prog 29 #[.pointer (some ⟨q, 0, none⟩), .int .i64 r] W fun e w' => (∃ v, e = .returned v ∧ TxtOwn w' W.heap.size v (traceL m r)) ∧ Below W.heap.size W w' := by
  obtain ⟨FR, h1, _⟩ := h.ex
  exact h1.trace r hr hmax
theorem DR.regions (h : DR w0 W P q m hh m2) : Calls Try.prog 30 #[.pointer (some ⟨q, 0, none⟩)] W fun e w' => e = .returned (.int .i64 m.now.length) ∧ W = w' := by
  obtain ⟨FR, h1, _⟩ := h.ex
  exact h1.regions
theorem DR.stopped (h : DR w0 W P q m hh m2) : Calls Try.prog 17 #[.pointer (some ⟨q, 0, none⟩)] W fun e w' => e = .returned (.bool (stopped m)) ∧ W = w' := by
  obtain ⟨FR, h1, _⟩ := h.ex
  exact h1.stopped
theorem DR.rwrite (h : DR w0 W P q m hh m2) (r i : Int) (hr : i64 r) (hi : i64 i) (A : Option Addr) (bs : List Int) (c : Nat) (hB : AllB bs) (hy : ∀ F, (∀ k, F k → w0.heap.size ≤ k) → (∀ k, P k → ¬ F k) → BytF W F A bs) (hl : bs.length ≤ 1000000) (hmax : m2.done.length ≤ 1000) :
    Calls Try.prog 24 #[.pointer (some ⟨hh, 0, none⟩), .int .i64 r, .int .i64 i, .slice A bs.length c] W fun e w' => e = .returned (.bool (okWrite m2 r i bs)) ∧ DR w0 w' P q m hh (m2.doWrite r i bs) ∧ Same P W w' := by
  obtain ⟨FR, h1, h2, h3, h4⟩ := h.ex
  exact (rwrite_any h2 h.both.ok h.both.rel r i hr hi A bs c hB (hy FR h3 h4) hl hmax).mono fun e w' ⟨he, hs⟩ => ⟨he, DR.step h1 h2 h3 h4 (h.both.write r i bs hB) hs⟩
theorem DR.rbarrier (HRB : RBar) (h : DR w0 W P q m hh m2) (r : Int) (hr : i64 r) (hmax : m2.done.length ≤ 1000) :
    Calls Try.prog 14 #[.pointer (some ⟨hh, 0, none⟩), .int .i64 r] W fun e w' => e = .returned (.bool (hasR m2 r)) ∧ DR w0 w' P q m hh (m2.doBarrier r) ∧ Same P W w' := by
  obtain ⟨FR, h1, h2, h3, h4⟩ := h.ex
  exact (rbar_any HRB h2 h.both.ok h.both.rel r hr hmax).mono fun e w' ⟨he, hs⟩ => ⟨he, DR.step h1 h2 h3 h4 (h.both.barrier r) hs⟩
theorem DR.rstop (h : DR w0 W P q m hh m2) (n : Int) (hn : i64 n) (hn' : n ≤ 9223372036854775807) :
    Calls Try.prog 16 #[.pointer (some ⟨hh, 0, none⟩), .int .i64 n] W fun e w' => e = .returned (.tuple #[]) ∧ DR w0 w' P q m hh (m2.stop n) ∧ Same P W w' := by
  obtain ⟨FR, h1, h2, h3, h4⟩ := h.ex
  exact (rstop_any2 h2 n hn).mono fun e w' ⟨he, hs⟩ => ⟨he, DR.step h1 h2 h3 h4 (h.both.stop hn hn') hs⟩
theorem DR.rcrash (h : DR w0 W P q m hh m2) (A : Option Addr) (ks : List (List Int)) (c : Nat) (hks : ∀ F, (∀ k, F k → w0.heap.size ≤ k) → (∀ k, P k → ¬ F k) → TxtsF W F A ks) (hkl : ks.length ≤ 1000000) (hmax : m2.done.length ≤ 1000) :
    Calls Try.prog 19 #[.pointer (some ⟨hh, 0, none⟩), .slice A ks.length c] W fun e w' => e = .returned (.tuple #[]) ∧ DR w0 w' P q m hh (m2.crash ks) ∧ Same P W w' := by
  obtain ⟨FR, h1, h2, h3, h4⟩ := h.ex
  exact (rcrash_any2 h2 h.both.ok h.both.rel A ks c (hks FR h3 h4) hkl hmax).mono fun e w' ⟨he, hs⟩ => ⟨he, DR.step h1 h2 h3 h4 (h.both.crash ks) hs⟩
theorem DR.rread (h : DR w0 W P q m hh m2) (r i : Int) (hr : i64 r) (hi : i64 i) :
    Calls Try.prog 27 #[.pointer (some ⟨hh, 0, none⟩), .int .i64 r, .int .i64 i] W fun e w' => (∃ v, e = .returned v ∧ RAns m2 r i v w') ∧ Below W.heap.size W w' := by
  obtain ⟨FR, h1, h2, h3, h4⟩ := h.ex
  exact rread_any h2 h.both.ok h.both.rel r i hr hi
end
end Go.Proofs.Ytocmjbfbjiinhaa

/- The reference's device: a table with one row more. -/
namespace Go.Proofs.Ytocmjbfbjiinhaa
open Go.ChangeShapes Go.WideShapes Go.ChangeAt Go.RowKit
set_option linter.unusedVariables false
/-- The owners behind a table's new value and its new row. -/
def iOwn (O : Nat → RRole) (t n : Nat) (v u : Value) : Nat → RRole := fun k => if v.ownBlock = some k then .tab t else if u.ownBlock = some k then .row t n else O k
theorem rET_rER (t : Nat) : rET t ≠ rER t := by unfold rET rER; split <;> decide
theorem RAt.install {w : World} {O : Nat → RRole} {hp : Nat} {L : Nat → Value} {G : Nat → RTab} {left : Int} (h : RAt w O hp L G left) {t : Nat} (ht : t < 4) {v' u : Value} {vs : List Value} {row : List (List Value)} {n : Nat} (hn : (G t).length = n) (hvs : vs.length = n)
    (h2 : ∀ (r : Nat) (row : List (List Value)), (G t)[r]? = some row → ∃ u, vs[r]? = some u ∧ RowAt w (fun k => O k = .row t r) (rER t) (rSz t) u row.length row.flatten)
    (h3 : RowAt w (fun k => O k = .tab t ∨ O k = .none) (rET t) 1 v' (n + 1) (vs ++ [u])) (h4 : RowAt w (fun k => O k = .none) (rER t) (rSz t) u row.length row.flatten) :
    RAt (w.setCell ⟨hp, t, none⟩ v') (iOwn O t n v' u) hp (fun s => if s = t then v' else L s) (fun s => if s = t then G t ++ [row] else G s) left := by
  subst hn
  have hap : ∀ k, v'.ownBlock = some k → u.ownBlock ≠ some k := fun k hk => h3.apart h4 (rET_rER t) hk
  have hnv : ∀ k, O k ≠ .tab t → O k ≠ .none → v'.ownBlock ≠ some k := fun k h1 h5 e => by rcases h3.2 k e with h6 | h6; exact h1 h6; exact h5 h6
  have hnu : ∀ k, O k ≠ .none → u.ownBlock ≠ some k := fun k h5 e => h5 (h4.2 k e)
  have same : ∀ k, O k ≠ .tab t → O k ≠ .none → iOwn O t (G t).length v' u k = O k := fun k h1 h5 => by
    unfold iOwn; rw [if_neg (hnv k h1 h5), if_neg (hnu k h5)]
  have ohd : iOwn O t (G t).length v' u hp = .hd := by rw [same hp (by rw [h.ohd]; simp) (by rw [h.ohd]; simp)]; exact h.ohd
  have other : ∀ k, k ≠ hp → (w.setCell ⟨hp, t, none⟩ v').heap[k]? = w.heap[k]? := fun k hk => Below.heap_setCell _ _ _ _ hk
  have put : ∀ {Own : Nat → Prop} {X : RRole} {E : TypeId} {sz m : Nat} {x : Value} {xs : List Value}, X ≠ .hd → RowAt w Own E sz x m xs → (∀ g, x.ownBlock = some g → Own g → iOwn O t (G t).length v' u g = X) → RowAt (w.setCell ⟨hp, t, none⟩ v') (fun k => iOwn O t (G t).length v' u k = X) E sz x m xs := fun hX ha hb =>
    (ha.ownerT (fun g cur _ he ho => hb g he ho)).keep fun k _ ho => other k (fun e => by rw [e] at ho; exact hX (ho.symm.trans ohd))
  refine ⟨?_, ohd, fun s hs => ?_⟩
  · have e := heap_setCell_same' (i := t) h.hd v'
    rw [e]
    match t, ht with
    | 0, _ => rfl
    | 1, _ => rfl
    | 2, _ => rfl
    | 3, _ => rfl
  · by_cases hst : s = t
    · subst hst
      simp only [if_true]
      refine rowsAt_snoc (vs := vs) (u := u) ?_ (fun r row' hr => ?_) ?_ hvs
      · exact put (by simp) h3 (fun g he _ => by unfold iOwn; rw [if_pos he])
      · obtain ⟨u2, hu, h5⟩ := h2 r row' hr
        exact ⟨u2, hu, put (by simp) h5 (fun g _ ho => by rw [same g (by rw [ho]; simp) (by rw [ho]; simp)]; exact ho)⟩
      · exact put (by simp) h4 (fun g he ho => by unfold iOwn; rw [if_neg (fun e => hap g e he), if_pos he])
    · simp only [if_neg hst]
      obtain ⟨vs2, a, b⟩ := h.tab s hs
      refine ⟨vs2, put (by simp) a (fun g _ ho => ?_), fun r row' hr => ?_⟩
      · rw [same g (by rw [ho]; simpa using hst) (by rw [ho]; simp)]; exact ho
      · obtain ⟨u2, hu, h5⟩ := b r row' hr
        exact ⟨u2, hu, put (by simp) h5 (fun g _ ho => by rw [same g (by rw [ho]; simp) (by rw [ho]; simp)]; exact ho)⟩
theorem iOwn_some {O : Nat → RRole} {t n : Nat} {v u : Value} {k : Nat} (h : iOwn O t n v u k ≠ .none) : O k ≠ .none ∨ v.ownBlock = some k ∨ u.ownBlock = some k := by
  unfold iOwn at h
  split at h
  · exact Or.inr (Or.inl (by assumption))
  · split at h
    · exact Or.inr (Or.inr (by assumption))
    · exact Or.inl h
theorem iOwn_same {O : Nat → RRole} {t n : Nat} {v u : Value} {k : Nat} (hv : ∀ x, v.ownBlock = some x → O x = .tab t ∨ O x = .none) (hu : ∀ x, u.ownBlock = some x → O x = .none) (h1 : O k ≠ .tab t) (h2 : O k ≠ .none) : iOwn O t n v u k = O k := by
  unfold iOwn
  rw [if_neg (fun e => (hv k e).elim h1 h2), if_neg (fun e => h2 (hu k e))]
/-- What the tables are while they are made. -/
def Gz (zs : List Int) (k : Nat) : Nat → RTab := (RM.make (zs.take k)).G
theorem Gz_zero (zs : List Int) : Gz zs 0 = fun _ => [] := by
  funext t; unfold Gz RM.G RM.make; rw [List.take_zero]
  by_cases h0 : t = 0 <;> by_cases h1 : t = 1 <;> by_cases h2 : t = 2 <;> by_cases h3 : t = 3 <;> simp [h0, h1, h2, h3]
theorem Gz_len (zs : List Int) {k : Nat} (hk : k ≤ zs.length) {t : Nat} (ht : t < 4) : (Gz zs k t).length = k := by
  unfold Gz RM.G RM.make
  have hl : (zs.take k).length = k := List.length_take_of_le hk
  match t, ht with
  | 0, _ => simp [hk]
  | 1, _ => simp [hk]
  | 2, _ => simp [hk]
  | 3, _ => simp [hk]
theorem rowAt_store {w : World} {Own Own' : Nat → Prop} {E : TypeId} {sz m hp t : Nat} {x v : Value} {xs : List Value} (h : RowAt w Own E sz x m xs) (ho : ∀ g, x.ownBlock = some g → Own g → Own' g ∧ g ≠ hp) : RowAt (w.setCell ⟨hp, t, none⟩ v) Own' E sz x m xs :=
  (h.ownerT (Own' := fun g => Own' g ∧ g ≠ hp) (fun g _ _ he hg => ho g he hg)).keep (fun k _ hk => Below.heap_setCell _ _ _ _ hk.2) |>.owner (fun _ _ hk => hk.1)
def rowZ (z : Int) (t : Nat) : List (List Value) := if t < 2 then (zeroRow z).map strE else []
theorem Gz_succ (zs : List Int) {k : Nat} {z : Int} (hz : zs[k]? = some z) (t : Nat) (ht : t < 4) : Gz zs (k + 1) t = Gz zs k t ++ [rowZ z t] := by
  have hk := (List.getElem?_eq_some_iff.1 hz).1
  unfold Gz RM.G RM.make rowZ
  rw [take_snoc' hz]
  have hr : ∀ {α : Type}, List.replicate (List.length (zs.take k ++ [z])) ([] : List α) = List.replicate (List.length (zs.take k)) [] ++ [[]] := fun {α} => by
    rw [List.length_append]; show List.replicate (_ + 1) _ = _; rw [List.replicate_succ']
  match t, ht with
  | 0, _ => simp
  | 1, _ => simp
  | 2, _ => simp only [hr]; simp
  | 3, _ => simp only [hr]; simp
theorem rowZ_len (n : Nat) {t : Nat} (ht : t < 2) : (rowZ (n : Int) t).length = n := by unfold rowZ zeroRow; rw [if_pos ht]; simp
theorem rowZ_one (n : Nat) : rowZ (n : Int) 1 = rowZ (n : Int) 0 := rfl
theorem Gz_far (zs : List Int) (k : Nat) {t : Nat} (ht : ¬ t < 4) : Gz zs k t = [] := by
  unfold Gz RM.G
  rw [if_neg (by omega), if_neg (by omega), if_neg (by omega), if_neg (by omega)]
end Go.Proofs.Ytocmjbfbjiinhaa

/- The reference's NewDev: what its two drawn regions do, as facts. -/
namespace Go.Proofs.Ytocmjbfbjiinhaa
open Go.ChangeShapes Go.WideShapes Go.ChangeAt Go.RowKit
set_option linter.unusedVariables false
/-- Two tables, p0 and p1, that are being grown: the old ones read as they did. -/
structure JJ (w1 : World) (O : Nat → RRole) (p0 p1 : Nat) (n : Nat) (l0 l1 : Value) (vs0 vs1 : List Value) (w : World) : Prop where
  touch : Touch (fun x => l0.ownBlock = some x ∨ l1.ownBlock = some x) w1 w
  t0 : RowAt w (fun q => O q = .tab p0) (rET p0) 1 l0 n vs0
  t1 : RowAt w (fun q => O q = .tab p1) (rET p1) 1 l1 n vs1
section
variable {w1 w w' : World} {O : Nat → RRole} {p0 p1 n : Nat} {l0 l1 : Value} {vs0 vs1 : List Value}
theorem JJ.grow (h : JJ w1 O p0 p1 n l0 l1 vs0 vs1 w) (hg : w.grownBy w' none) : JJ w1 O p0 p1 n l0 l1 vs0 vs1 w' :=
  ⟨h.touch.trans' (Touch.of_grown hg) (fun x hx => by cases hx), h.t0.keep fun x hx _ => hg.block x hx (by simp), h.t1.keep fun x hx _ => hg.block x hx (by simp)⟩
theorem JJ.push0 (h : JJ w1 O p0 p1 n l0 l1 vs0 vs1 w) (hne : p0 ≠ p1) (hg : w.grownBy w' l0.ownBlock) (hold : RowAt w' (fun q => O q = .tab p0) (rET p0) 1 l0 n vs0) : JJ w1 O p0 p1 n l0 l1 vs0 vs1 w' :=
  ⟨h.touch.trans' (Touch.of_grown hg) (fun x hx => Or.inl (Or.inl hx.symm)), hold, h.t1.keep fun x hx ho => hg.block x hx (fun e => by
    have h2 : O x = .tab p0 := h.t0.2 x e.symm; rw [ho] at h2; injection h2 with h2; exact hne h2.symm)⟩
theorem JJ.push1 (h : JJ w1 O p0 p1 n l0 l1 vs0 vs1 w) (hne : p0 ≠ p1) (hg : w.grownBy w' l1.ownBlock) (hold : RowAt w' (fun q => O q = .tab p1) (rET p1) 1 l1 n vs1) : JJ w1 O p0 p1 n l0 l1 vs0 vs1 w' :=
  ⟨h.touch.trans' (Touch.of_grown hg) (fun x hx => Or.inl (Or.inr hx.symm)), h.t0.keep fun x hx ho => hg.block x hx (fun e => by
    have h2 : O x = .tab p1 := h.t1.2 x e.symm; rw [ho] at h2; injection h2 with h2; exact hne h2), hold⟩
/-- A cell of a block that is neither table's. -/
theorem JJ.cell (h : JJ w1 O p0 p1 n l0 l1 vs0 vs1 w) {q i : Nat} {v : Value} (hc : w1.cell? ⟨q, i, none⟩ = some v) (h0 : O q ≠ .tab p0) (h1 : O q ≠ .tab p1) : w.cell? ⟨q, i, none⟩ = some v :=
  keepT h.touch hc (by
    rintro (e | e)
    · exact h0 (h.t0.2 q e)
    · exact h1 (h.t1.2 q e))
theorem JJ.row (h : JJ w1 O p0 p1 n l0 l1 vs0 vs1 w) {Own : Nat → Prop} {E : TypeId} {sz m : Nat} {v : Value} {xs : List Value} (hr : RowAt w1 Own E sz v m xs) (ho : ∀ q, Own q → O q ≠ .tab p0 ∧ O q ≠ .tab p1) : RowAt w Own E sz v m xs :=
  hr.touch h.touch fun q hq => by
    rintro (e | e)
    · exact (ho q hq).1 (h.t0.2 q e)
    · exact (ho q hq).2 (h.t1.2 q e)
/-- The device is as it was. -/
theorem JJ.rat (h : JJ w1 O p0 p1 n l0 l1 vs0 vs1 w) {hp : Nat} {L : Nat → Value} {G : Nat → RTab} {left : Int} (hr : RAt w1 O hp L G left) (e0 : l0 = L p0) (e1 : l1 = L p1) (hn0 : (G p0).length = n) (hn1 : (G p1).length = n)
    (hv0 : ∀ (r : Nat) (row : List (List Value)), (G p0)[r]? = some row → ∃ u, vs0[r]? = some u ∧ RowAt w1 (fun k => O k = .row p0 r) (rER p0) (rSz p0) u row.length row.flatten)
    (hv1 : ∀ (r : Nat) (row : List (List Value)), (G p1)[r]? = some row → ∃ u, vs1[r]? = some u ∧ RowAt w1 (fun k => O k = .row p1 r) (rER p1) (rSz p1) u row.length row.flatten) : RAt w O hp L G left := by
  have notT : ∀ k, (l0.ownBlock = some k ∨ l1.ownBlock = some k) → O k = .tab p0 ∨ O k = .tab p1 := fun k hk => hk.imp (h.t0.2 k) (h.t1.2 k)
  have rowK : ∀ {r t : Nat} {E : TypeId} {sz m : Nat} {v : Value} {xs : List Value}, RowAt w1 (fun k => O k = .row t r) E sz v m xs → RowAt w (fun k => O k = .row t r) E sz v m xs := fun hx => h.row hx (fun q hq => by rw [hq]; exact ⟨by simp, by simp⟩)
  refine ⟨?_, hr.ohd, fun t ht => ?_⟩
  · rw [h.touch.block hp (room_lt hr.hd) (fun e => by rcases notT hp e with e | e <;> rw [hr.ohd] at e <;> cases e)]; exact hr.hd
  · by_cases ht0 : t = p0
    · subst ht0
      subst e0
      refine ⟨vs0, by rw [hn0]; exact h.t0, fun r row hr2 => ?_⟩
      obtain ⟨u, hu, h5⟩ := hv0 r row hr2
      exact ⟨u, hu, rowK h5⟩
    · by_cases ht1 : t = p1
      · subst ht1
        subst e1
        refine ⟨vs1, by rw [hn1]; exact h.t1, fun r row hr2 => ?_⟩
        obtain ⟨u, hu, h5⟩ := hv1 r row hr2
        exact ⟨u, hu, rowK h5⟩
      · obtain ⟨vs2, a, b⟩ := hr.tab t ht
        refine ⟨vs2, h.row a (fun q hq => by rw [hq]; exact ⟨by simpa using ht0, by simpa using ht1⟩), fun r row hr2 => ?_⟩
        obtain ⟨u, hu, h5⟩ := b r row hr2
        exact ⟨u, hu, rowK h5⟩
end
/-- What an operation may do: a and b push, c stores into the head. -/
def SN (a b c hp : Nat) (l0 l1 : Value) (i : Nat) (w w' : World) : Prop :=
  if i = a then w.grownBy w' l0.ownBlock else if i = b then w.grownBy w' l1.ownBlock else if i = c then Touch (fun q => q = hp) w w' else w.grownBy w' none
theorem SN.quiet {a b c hp : Nat} {l0 l1 : Value} (i : Nat) {w w' : World} (ha : i ≠ a) (hb : i ≠ b) (hc : i ≠ c) (h : w.grownBy w' none) : SN a b c hp l0 l1 i w w' := by unfold SN; rw [if_neg ha, if_neg hb, if_neg hc]; exact h
theorem SN.keep {a b c hp : Nat} {l0 l1 : Value} {i : Nat} {w w' : World} {O : Nat → RRole} {p0 p1 B1 : Nat} (hs : SN a b c hp l0 l1 i w w') (hO : ∀ k, O k ≠ .none → k < B1) (ohd : O hp = .hd) (h0 : ∀ x, l0.ownBlock = some x → O x = .tab p0) (h1 : ∀ x, l1.ownBlock = some x → O x = .tab p1) (hne : p0 ≠ p1) {x : Nat} (hx : x < w.heap.size)
    (h : B1 ≤ x ∨ (O x = .tab p0 ∧ i ≠ a) ∨ (O x = .tab p1 ∧ i ≠ b)) : w'.heap[x]? = w.heap[x]? := by
  have hn : B1 ≤ x → O x = .none := fun hb => Classical.byContradiction fun e => by have := hO x e; omega
  unfold SN at hs
  split at hs
  · refine hs.block x hx (fun e => ?_)
    have h2 := h0 x e.symm
    rcases h with h | ⟨_, h⟩ | ⟨h, _⟩
    · rw [hn h] at h2; cases h2
    · exact h (by assumption)
    · rw [h] at h2; injection h2 with h2; exact hne h2.symm
  · split at hs
    · refine hs.block x hx (fun e => ?_)
      have h2 := h1 x e.symm
      rcases h with h | ⟨h, _⟩ | ⟨_, h⟩
      · rw [hn h] at h2; cases h2
      · rw [h] at h2; injection h2 with h2; exact hne h2
      · exact h (by assumption)
    · split at hs
      · refine hs.block x hx (fun e => ?_)
        have e : x = hp := e
        subst e
        rcases h with h | ⟨h, _⟩ | ⟨h, _⟩
        · rw [hn h] at ohd; cases ohd
        · rw [h] at ohd; cases ohd
        · rw [h] at ohd; cases ohd
      · exact hs.block x hx (by simp)
/-- What region 14's operations yield. -/
def VN14 (hp B1 n m : Nat) (O : Nat → RRole) (l0 l1 l : Value) (vs0 vs1 xs : List Value) (i : Nat) (v : Value) (w : World) : Prop :=
  match i with
  | 0 | 1 | 2 | 3 | 4 | 9 | 10 | 18 | 19 | 21 => v = .pointer (some ⟨hp, 0, none⟩)
  | 5 => v = l0
  | 6 | 14 => v = l
  | 11 | 22 => v = .pointer (some ⟨hp, 1, none⟩)
  | 12 => v = l1
  | 7 => ∃ x, v = .slice (some ⟨x, 0, none⟩) 1 1 ∧ B1 ≤ x ∧ w.heap[x]? = some (.cells #[l] 69 (0, 0))
  | 8 => RowAt w (fun q => O q = .tab 0 ∨ B1 ≤ q) 69 1 v (n + 1) (vs0 ++ [l])
  | 13 => ∃ q, v = .slice (some ⟨q, 0, none⟩) 0 0 ∧ B1 ≤ q ∧ w.heap[q]? = some (.cells #[] 9 (0, 0))
  | 15 => RowAt w (fun q => B1 ≤ q) 9 1 v m xs ∧ ∃ A c, v = .slice A m c
  | 16 => ∃ x u, v = .slice (some ⟨x, 0, none⟩) 1 1 ∧ B1 ≤ x ∧ w.heap[x]? = some (.cells #[u] 69 (0, 0)) ∧ RowAt w (fun q => B1 ≤ q) 9 1 u m xs ∧ ∃ A c, u = .slice A m c
  | 17 => ∃ u, RowAt w (fun q => O q = .tab 1 ∨ B1 ≤ q) 69 1 v (n + 1) (vs1 ++ [u]) ∧ RowAt w (fun q => B1 ≤ q) 9 1 u m xs ∧ ∃ A c, u = .slice A m c
  | _ => True
/-- How far it is. -/
def JN14 (w1 : World) (O : Nat → RRole) (hp n : Nat) (l0 l1 l : Value) (vs0 vs1 : List Value) (Ls : Nat → Bool) (w : World) : Prop :=
  (Ls 20 = false ∧ ((Ls 15 = true → Ls 13 = true) ∧ (Ls 17 = true → Ls 16 = true)) ∧ JJ w1 O 0 1 n l0 l1 vs0 vs1 w) ∨
  (Ls 20 = true ∧ (Ls 5 = true ∧ Ls 7 = true ∧ Ls 8 = true ∧ Ls 12 = true ∧ Ls 13 = true ∧ Ls 15 = true ∧ Ls 16 = true ∧ Ls 17 = true) ∧ ∃ W3 v, JJ w1 O 0 1 n l0 l1 vs0 vs1 W3 ∧ RowAt W3 (fun q => O q = .tab 0 ∨ w1.heap.size ≤ q) 69 1 v (n + 1) (vs0 ++ [l]) ∧ (∃ A c, v = .slice A (n + 1) c) ∧ w = W3.setCell ⟨hp, 0, none⟩ v)
section
variable {w1 w w' : World} {O : Nat → RRole} {hp n : Nat} {l0 l1 l : Value} {vs0 vs1 : List Value} {Ls : Nat → Bool}
theorem JN14.fresh (h : JN14 w1 O hp n l0 l1 l vs0 vs1 Ls w) (i : Nat) (hi : i = 5 ∨ i = 7 ∨ i = 8 ∨ i = 12 ∨ i = 13 ∨ i = 15 ∨ i = 16 ∨ i = 17 ∨ i = 20) (hn : Ls i = false) : JJ w1 O 0 1 n l0 l1 vs0 vs1 w := by
  rcases h with h | ⟨h20, ⟨h1, h2, h3, h4, h5, h6, h7, h8⟩, _⟩
  · exact h.2.2
  · rcases hi with rfl | rfl | rfl | rfl | rfl | rfl | rfl | rfl | rfl <;> simp_all
theorem JN14.add (h : JN14 w1 O hp n l0 l1 l vs0 vs1 Ls w) {i : Nat} (hi : i ≠ 20 ∧ i ≠ 15 ∧ i ≠ 17) : JN14 w1 O hp n l0 l1 l vs0 vs1 (fun j => if i = j then true else Ls j) w := by
  rcases h with ⟨h1, ⟨h2, h3⟩, h4⟩ | ⟨h20, ⟨h1, h2, h3, h4, h5, h6, h7, h8⟩, h9⟩
  · refine Or.inl ⟨by simp [hi.1, h1], ⟨fun h => ?_, fun h => ?_⟩, h4⟩
    · have : Ls 15 = true := by simpa [hi.2.1] using h
      simp [h2 this]
    · have : Ls 17 = true := by simpa [hi.2.2] using h
      simp [h3 this]
  · refine Or.inr ⟨by simp [h20], ⟨?_, ?_, ?_, ?_, ?_, ?_, ?_, ?_⟩, h9⟩ <;> simp_all
theorem JN14.grow (h : JN14 w1 O hp n l0 l1 l vs0 vs1 Ls w) (i : Nat) (hi : i = 7 ∨ i = 8 ∨ i = 13 ∨ i = 15 ∨ i = 16 ∨ i = 17) (hn : Ls i = false) (hj : JJ w1 O 0 1 n l0 l1 vs0 vs1 w') (h13 : i = 15 → Ls 13 = true) (h16 : i = 17 → Ls 16 = true) : JN14 w1 O hp n l0 l1 l vs0 vs1 (fun j => if i = j then true else Ls j) w' := by
  rcases h with ⟨h1, ⟨h2, h3⟩, h4⟩ | ⟨h20, ⟨h1, h2, h3, h4, h5, h6, h7, h8⟩, h9⟩
  · have h20 : i ≠ 20 := by omega
    refine Or.inl ⟨by simp [h20, h1], ⟨fun h => ?_, fun h => ?_⟩, hj⟩
    · by_cases e : i = 15
      · simp [h13 e]
      · have : Ls 15 = true := by simpa [e] using h
        simp [h2 this]
    · by_cases e : i = 17
      · simp [h16 e]
      · have : Ls 17 = true := by simpa [e] using h
        simp [h3 this]
  · rcases hi with rfl | rfl | rfl | rfl | rfl | rfl <;> simp_all
theorem or_if2 (Ls : Nat → Bool) (i : Nat) : (fun j => decide (i = j) || Ls j) = fun j => if i = j then true else Ls j := funext fun j => by by_cases h : i = j <;> simp [h]
theorem JN14.add' (h : JN14 w1 O hp n l0 l1 l vs0 vs1 Ls w) (i : Nat) (hi : i ≠ 20 ∧ i ≠ 15 ∧ i ≠ 17) : JN14 w1 O hp n l0 l1 l vs0 vs1 (fun j => decide (i = j) || Ls j) w := by rw [or_if2]; exact h.add hi
theorem JN14.grow' (h : JN14 w1 O hp n l0 l1 l vs0 vs1 Ls w) (i : Nat) (hi : i = 7 ∨ i = 8 ∨ i = 13 ∨ i = 15 ∨ i = 16 ∨ i = 17) (hn : Ls i = false) (hj : JJ w1 O 0 1 n l0 l1 vs0 vs1 w') (h13 : i = 15 → Ls 13 = true) (h16 : i = 17 → Ls 16 = true) : JN14 w1 O hp n l0 l1 l vs0 vs1 (fun j => decide (i = j) || Ls j) w' := by rw [or_if2]; exact h.grow i hi hn hj h13 h16
theorem JN14.store (h : JN14 w1 O hp n l0 l1 l vs0 vs1 Ls w) {v : Value} (hn : Ls 20 = false) (hd : Ls 5 = true ∧ Ls 7 = true ∧ Ls 8 = true ∧ Ls 12 = true ∧ Ls 15 = true ∧ Ls 17 = true) (hj : JJ w1 O 0 1 n l0 l1 vs0 vs1 w) (hv : RowAt w (fun q => O q = .tab 0 ∨ w1.heap.size ≤ q) 69 1 v (n + 1) (vs0 ++ [l])) (hs : ∃ A c, v = .slice A (n + 1) c) :
    JN14 w1 O hp n l0 l1 l vs0 vs1 (fun j => decide (20 = j) || Ls j) (w.setCell ⟨hp, 0, none⟩ v) := by
  obtain ⟨h1, h2, h3, h4, h5, h6⟩ := hd
  rcases h with ⟨_, ⟨c1, c2⟩, _⟩ | ⟨h20, _⟩
  · exact Or.inr ⟨by simp, ⟨by simp [h1], by simp [h2], by simp [h3], by simp [h4], by simp [c1 h5], by simp [h5], by simp [c2 h6], by simp [h6]⟩, w, v, hj, hv, hs, rfl⟩
  · rw [hn] at h20; cases h20
theorem JN14.done (h : JN14 w1 O hp n l0 l1 l vs0 vs1 Ls w) (h20 : Ls 20 = true) : ∃ W3 v, JJ w1 O 0 1 n l0 l1 vs0 vs1 W3 ∧ RowAt W3 (fun q => O q = .tab 0 ∨ w1.heap.size ≤ q) 69 1 v (n + 1) (vs0 ++ [l]) ∧ (∃ A c, v = .slice A (n + 1) c) ∧ w = W3.setCell ⟨hp, 0, none⟩ v := by
  rcases h with h | h
  · rw [h.1] at h20; cases h20
  · exact h.2.2
end
theorem VN14.on {hp B1 n m : Nat} {O : Nat → RRole} {l0 l1 l : Value} {vs0 vs1 xs : List Value} {i j : Nat} {v : Value} {w w' : World} (hij : i ≠ j) (hO : ∀ k, O k ≠ .none → k < B1) (ohd : O hp = .hd) (h0 : ∀ x, l0.ownBlock = some x → O x = .tab 0) (h1 : ∀ x, l1.ownBlock = some x → O x = .tab 1)
    (h : VN14 hp B1 n m O l0 l1 l vs0 vs1 xs j v w) (hs : SN 8 17 20 hp l0 l1 i w w') : VN14 hp B1 n m O l0 l1 l vs0 vs1 xs j v w' := by
  have kp : ∀ x, x < w.heap.size → (B1 ≤ x ∨ (O x = .tab 0 ∧ i ≠ 8) ∨ (O x = .tab 1 ∧ i ≠ 17)) → w'.heap[x]? = w.heap[x]? := fun x hx hc => hs.keep hO ohd h0 h1 (by decide) hx hc
  unfold VN14 at *
  split <;> try exact h
  · obtain ⟨x, e, h2, h3⟩ := h
    exact ⟨x, e, h2, (kp x (room_lt h3) (Or.inl h2)).trans h3⟩
  · exact h.keep fun x hx ho => kp x hx (ho.elim (fun h => Or.inr (Or.inl ⟨h, hij⟩)) Or.inl)
  · obtain ⟨x, e, h2, h3⟩ := h
    exact ⟨x, e, h2, (kp x (room_lt h3) (Or.inl h2)).trans h3⟩
  · exact ⟨h.1.keep fun x hx ho => kp x hx (Or.inl ho), h.2⟩
  · obtain ⟨x, u, e, h2, h3, h4, h5⟩ := h
    exact ⟨x, u, e, h2, (kp x (room_lt h3) (Or.inl h2)).trans h3, h4.keep fun x hx ho => kp x hx (Or.inl ho), h5⟩
  · obtain ⟨u, h2, h3, h4⟩ := h
    exact ⟨u, h2.keep fun x hx ho => kp x hx (ho.elim (fun h => Or.inr (Or.inr ⟨h, hij⟩)) Or.inl), h3.keep fun x hx ho => kp x hx (Or.inl ho), h4⟩
  · trivial
/-- What region 15's operations yield. -/
def VN15 (hp B1 n : Nat) (O : Nat → RRole) (l0 l1 : Value) (vs0 vs1 : List Value) (i : Nat) (v : Value) (w : World) : Prop :=
  match i with
  | 0 | 1 | 2 | 3 | 8 | 9 | 14 | 17 => v = .pointer (some ⟨hp, 0, none⟩)
  | 4 | 15 => v = .pointer (some ⟨hp, 2, none⟩)
  | 5 => v = l0
  | 10 | 18 => v = .pointer (some ⟨hp, 3, none⟩)
  | 11 => v = l1
  | 6 => ∃ x, v = .slice (some ⟨x, 0, none⟩) 1 1 ∧ B1 ≤ x ∧ w.heap[x]? = some (.cells #[.slice none 0 0] 77 (0, 0))
  | 7 => RowAt w (fun q => O q = .tab 2 ∨ B1 ≤ q) 77 1 v (n + 1) (vs0 ++ [.slice none 0 0])
  | 12 => ∃ x, v = .slice (some ⟨x, 0, none⟩) 1 1 ∧ B1 ≤ x ∧ w.heap[x]? = some (.cells #[.slice none 0 0] 69 (0, 0))
  | 13 => RowAt w (fun q => O q = .tab 3 ∨ B1 ≤ q) 69 1 v (n + 1) (vs1 ++ [.slice none 0 0])
  | _ => True
/-- How far it is. -/
def JN15 (w1 : World) (O : Nat → RRole) (hp n : Nat) (l0 l1 : Value) (vs0 vs1 : List Value) (Ls : Nat → Bool) (w : World) : Prop :=
  (Ls 16 = false ∧ (Ls 13 = true → Ls 12 = true) ∧ JJ w1 O 2 3 n l0 l1 vs0 vs1 w) ∨
  (Ls 16 = true ∧ (Ls 5 = true ∧ Ls 6 = true ∧ Ls 7 = true ∧ Ls 11 = true ∧ Ls 12 = true ∧ Ls 13 = true) ∧ ∃ W3 v, JJ w1 O 2 3 n l0 l1 vs0 vs1 W3 ∧ RowAt W3 (fun q => O q = .tab 2 ∨ w1.heap.size ≤ q) 77 1 v (n + 1) (vs0 ++ [.slice none 0 0]) ∧ (∃ A c, v = .slice A (n + 1) c) ∧ w = W3.setCell ⟨hp, 2, none⟩ v)
section
variable {w1 w w' : World} {O : Nat → RRole} {hp n : Nat} {l0 l1 : Value} {vs0 vs1 : List Value} {Ls : Nat → Bool}
theorem JN15.fresh (h : JN15 w1 O hp n l0 l1 vs0 vs1 Ls w) (i : Nat) (hi : i = 5 ∨ i = 6 ∨ i = 7 ∨ i = 11 ∨ i = 12 ∨ i = 13 ∨ i = 16) (hn : Ls i = false) : JJ w1 O 2 3 n l0 l1 vs0 vs1 w := by
  rcases h with h | ⟨h20, ⟨h1, h2, h3, h4, h5, h6⟩, _⟩
  · exact h.2.2
  · rcases hi with rfl | rfl | rfl | rfl | rfl | rfl | rfl <;> simp_all
theorem JN15.add (h : JN15 w1 O hp n l0 l1 vs0 vs1 Ls w) {i : Nat} (hi : i ≠ 16 ∧ i ≠ 13) : JN15 w1 O hp n l0 l1 vs0 vs1 (fun j => if i = j then true else Ls j) w := by
  rcases h with ⟨h1, h2, h4⟩ | ⟨h20, ⟨h1, h2, h3, h4, h5, h6⟩, h9⟩
  · refine Or.inl ⟨by simp [hi.1, h1], fun h => ?_, h4⟩
    have : Ls 13 = true := by simpa [hi.2] using h
    simp [h2 this]
  · refine Or.inr ⟨by simp [h20], ⟨?_, ?_, ?_, ?_, ?_, ?_⟩, h9⟩ <;> simp_all
theorem JN15.grow (h : JN15 w1 O hp n l0 l1 vs0 vs1 Ls w) (i : Nat) (hi : i = 6 ∨ i = 7 ∨ i = 12 ∨ i = 13) (hn : Ls i = false) (hj : JJ w1 O 2 3 n l0 l1 vs0 vs1 w') (h13 : i = 13 → Ls 12 = true) : JN15 w1 O hp n l0 l1 vs0 vs1 (fun j => if i = j then true else Ls j) w' := by
  rcases h with ⟨h1, h2, h4⟩ | ⟨h20, ⟨h1, h2, h3, h4, h5, h6⟩, h9⟩
  · have h20 : i ≠ 16 := by omega
    refine Or.inl ⟨by simp [h20, h1], fun h => ?_, hj⟩
    by_cases e : i = 13
    · simp [h13 e]
    · have : Ls 13 = true := by simpa [e] using h
      simp [h2 this]
  · rcases hi with rfl | rfl | rfl | rfl <;> simp_all
theorem JN15.add' (h : JN15 w1 O hp n l0 l1 vs0 vs1 Ls w) (i : Nat) (hi : i ≠ 16 ∧ i ≠ 13) : JN15 w1 O hp n l0 l1 vs0 vs1 (fun j => decide (i = j) || Ls j) w := by rw [or_if2]; exact h.add hi
theorem JN15.store (h : JN15 w1 O hp n l0 l1 vs0 vs1 Ls w) {v : Value} (hn : Ls 16 = false) (hd : Ls 5 = true ∧ Ls 6 = true ∧ Ls 7 = true ∧ Ls 11 = true ∧ Ls 13 = true) (hj : JJ w1 O 2 3 n l0 l1 vs0 vs1 w) (hv : RowAt w (fun q => O q = .tab 2 ∨ w1.heap.size ≤ q) 77 1 v (n + 1) (vs0 ++ [.slice none 0 0])) (hs : ∃ A c, v = .slice A (n + 1) c) :
    JN15 w1 O hp n l0 l1 vs0 vs1 (fun j => decide (16 = j) || Ls j) (w.setCell ⟨hp, 2, none⟩ v) := by
  obtain ⟨h1, h2, h3, h4, h5⟩ := hd
  rcases h with ⟨_, c1, _⟩ | ⟨h20, _⟩
  · exact Or.inr ⟨by simp, ⟨by simp [h1], by simp [h2], by simp [h3], by simp [h4], by simp [c1 h5], by simp [h5]⟩, w, v, hj, hv, hs, rfl⟩
  · rw [hn] at h20; cases h20
theorem JN15.done (h : JN15 w1 O hp n l0 l1 vs0 vs1 Ls w) (h20 : Ls 16 = true) : ∃ W3 v, JJ w1 O 2 3 n l0 l1 vs0 vs1 W3 ∧ RowAt W3 (fun q => O q = .tab 2 ∨ w1.heap.size ≤ q) 77 1 v (n + 1) (vs0 ++ [.slice none 0 0]) ∧ (∃ A c, v = .slice A (n + 1) c) ∧ w = W3.setCell ⟨hp, 2, none⟩ v := by
  rcases h with h | h
  · rw [h.1] at h20; cases h20
  · exact h.2.2
end
theorem VN15.on {hp B1 n : Nat} {O : Nat → RRole} {l0 l1 : Value} {vs0 vs1 : List Value} {i j : Nat} {v : Value} {w w' : World} (hij : i ≠ j) (hO : ∀ k, O k ≠ .none → k < B1) (ohd : O hp = .hd) (h0 : ∀ x, l0.ownBlock = some x → O x = .tab 2) (h1 : ∀ x, l1.ownBlock = some x → O x = .tab 3)
    (h : VN15 hp B1 n O l0 l1 vs0 vs1 j v w) (hs : SN 7 13 16 hp l0 l1 i w w') : VN15 hp B1 n O l0 l1 vs0 vs1 j v w' := by
  have kp : ∀ x, x < w.heap.size → (B1 ≤ x ∨ (O x = .tab 2 ∧ i ≠ 7) ∨ (O x = .tab 3 ∧ i ≠ 13)) → w'.heap[x]? = w.heap[x]? := fun x hx hc => hs.keep hO ohd h0 h1 (by decide) hx hc
  unfold VN15 at *
  split <;> try exact h
  · obtain ⟨x, e, h2, h3⟩ := h
    exact ⟨x, e, h2, (kp x (room_lt h3) (Or.inl h2)).trans h3⟩
  · exact h.keep fun x hx ho => kp x hx (ho.elim (fun h => Or.inr (Or.inl ⟨h, hij⟩)) Or.inl)
  · obtain ⟨x, e, h2, h3⟩ := h
    exact ⟨x, e, h2, (kp x (room_lt h3) (Or.inl h2)).trans h3⟩
  · exact h.keep fun x hx ho => kp x hx (ho.elim (fun h => Or.inr (Or.inr ⟨h, hij⟩)) Or.inl)
  · trivial
end Go.Proofs.Ytocmjbfbjiinhaa

/- Contract: the reference's NewDev. -/
namespace Go.Proofs.Ytocmjbfbjiinhaa
open Go.ChangeShapes Go.WideShapes Go.ChangeAt Go.RowKit
set_option linter.unusedVariables false
theorem infoSL : (Try.prog.info? 69).map (fun i => (i.zero, i.size, i.bytes)) = some (some (.slice none 0 0), 1, 24) := by kernel_rfl
theorem infoPL : (Try.prog.info? 77).map (fun i => (i.zero, i.size, i.bytes)) = some (some (.slice none 0 0), 1, 24) := by kernel_rfl
def s64 : ByteArray := strOfNums (List.replicate 64 0)
theorem rowZ_flat (n : Nat) : (rowZ (n : Int) 0).flatten = List.replicate n (.string s64) := by
  unfold rowZ
  rw [if_pos (by omega)]
  unfold zeroRow
  rw [Int.toNat_natCast, List.map_replicate]
  induction n with
  | zero => rfl
  | succ n ih => rw [List.replicate_succ, List.flatten_cons, ih, List.replicate_succ]; rfl
def NewE (zs : List Int) (B : Nat) (e : Ending) (w' : World) : Prop :=
  if mayV zs then ∃ hp F, e = .returned (.tuple #[.pointer (some ⟨hp, 0, none⟩), .bool true]) ∧ Ref w' F hp (RM.make zs).G (-1) ∧ ∀ k, F k → B ≤ k
  else e = .returned (.tuple #[.pointer none, .bool false])
set_option maxRecDepth 100000 in
set_option maxHeartbeats 6400000 in
theorem newdev_any (A : Option Addr) (zs : List Int) (c : Nat) (w0 : World) (hB0 : AllI zs) (hy : Nts w0 A zs) (hl : zs.length ≤ 1000000) :
    Calls Try.prog 12 #[.slice A zs.length c] w0 fun e w' => NewE zs w0.heap.size e w' ∧ Below w0.heap.size w0 w' := by
  by_cases hlen : 1 ≤ zs.length ∧ zs.length ≤ 8
  · have HY := Lib.hid hy
    have HAI := Lib.hid hB0
    have hlen1 := hlen.1
    have hlen8 := hlen.2
    clear hy hB0 hlen
    generalize hR : zs.length = R at *
    have HR := Lib.hid hR
    clear hR
    obtain ⟨i5, hi5, hz5, hs5, hb5⟩ := info_parts info5
    have hmk := fun w : World => run_make (P := Try.prog) w 31 5 i5 _ Try.underlying31 hi5 hz5 .i64 .i64 64 64 (by omega) (by omega) (by rw [hb5]; omega) (by omega)
    have hM : (madeCells (Value.int .u8 0).cells ((64 : Int).toNat * i5.size)).toList = Bs (List.replicate 64 0) := by
      rw [hs5]
      show (madeCells #[Value.int .u8 0] 64).toList = _
      rw [toList_madeCells_one]
      unfold Bs
      rw [List.map_replicate]
    generalize madeCells (Value.int .u8 0).cells ((64 : Int).toNat * i5.size) = M at *
    rw [show ((64 : Int)).toNat = 64 by omega] at hmk
    have HCV : Hid (∀ W : World, (convert 31 9 (.slice (some ⟨W.heap.size, 0, none⟩) 64 64)).run Try.prog (W.alloc (Obj.cells M 5)) = .ok (.string s64) (W.alloc (Obj.cells M 5))) := fun W => conv_any (byt_blk (heap_alloc_new _ _) hM) (by simp)
    have HMK := Lib.hid hmk
    clear hM hmk hi5 hz5 hs5 hb5
    have h0 : RAt (w0.alloc (.cells #[.slice none 0 0, .slice none 0 0, .slice none 0 0, .slice none 0 0, .int .i64 (-1)] 68)) (fun k => if k = w0.heap.size then .hd else .none) w0.heap.size (fun _ => .slice none 0 0) (Gz zs 0) (-1) := by
      refine ⟨heap_alloc_new _ _, if_pos rfl, fun t _ => ?_⟩
      rw [Gz_zero]
      exact RowsAt.nil _ _ _ _ _ _ _
    have hb0 : Below w0.heap.size w0 (w0.alloc (.cells #[.slice none 0 0, .slice none 0 0, .slice none 0 0, .slice none 0 0, .int .i64 (-1)] 68)) := (Below.refl _ _).alloc (Nat.le_refl _) _
    have hO0 : ∀ k, (if k = w0.heap.size then RRole.hd else RRole.none) ≠ .none → w0.heap.size ≤ k ∧ k < (w0.alloc (.cells #[.slice none 0 0, .slice none 0 0, .slice none 0 0, .slice none 0 0, .int .i64 (-1)] 68)).heap.size := fun k hk => by
      split at hk
      · rename_i e; rw [e]; exact ⟨Nat.le_refl _, room_lt h0.hd⟩
      · exact absurd rfl hk
    have H0 := Lib.hid (And.intro h0 (And.intro hO0 hb0))
    clear h0 hb0 hO0
    have hd1 : decide ((R : Int) < 1) = false := decide_eq_false (by omega)
    have hd2 : decide (8 < (R : Int)) = false := decide_eq_false (by omega)
    go_enter Try.func12, Try.ntmps12
    go_wp2_with fail
    generalize w0.alloc (.cells #[.slice none 0 0, .slice none 0 0, .slice none 0 0, .slice none 0 0, .int .i64 (-1)] 68) = wA at *
    obtain ⟨B, hB⟩ : ∃ B, B = w0.heap.size := ⟨_, rfl⟩
    have HBB := Lib.hid hB
    rw [← hB] at H0 ⊢
    clear hB
    go_loopw [5] (fun i wr => ∃ (k : Nat) (O : Nat → RRole) (L : Nat → Value), i = .int .i64 k ∧ k ≤ R ∧ RAt wr O B L (Gz zs k) (-1) ∧ (∀ q, O q ≠ .none → B ≤ q ∧ q < wr.heap.size) ∧ Below B w0 wr ∧ Hid (∀ j z, j < k → zs[j]? = some z → badSize z = false)) (fun i _ => R - (intOf i).toNat)
    case atStart => exact ⟨0, _, _, rfl, Nat.zero_le _, H0.out.1, H0.out.2.1, H0.out.2.2, fun j z hj => absurd hj (by omega)⟩
    case round =>
      obtain ⟨k, O, L, rfl, hk, hat, hO, hb, HG⟩ := hrel
      clear H0 hd1 hd2
      by_cases hlt : k < R
      · obtain ⟨z, hz⟩ : ∃ z, zs[k]? = some z := ⟨_, List.getElem?_eq_getElem (by rw [HR.out]; exact hlt)⟩
        obtain ⟨a, rfl, hc⟩ := HY.out _ _ hz
        have hzi := HAI.out z (List.mem_of_getElem? hz)
        have hcell : wr.cell? (a.add k) = some (.int .i64 z) := by rw [hb.cell (by rw [HBB.out]; exact World.block_lt_of_cell? w0 _ hc)]; exact hc
        by_cases hbad : badSize z = true
        · have hno : mayV zs = false := by
            unfold mayV
            rw [List.any_eq_true.2 ⟨z, List.mem_of_getElem? hz, hbad⟩]; simp
          have HNO := Lib.hid hno
          have HBL := Lib.hid hb
          have hbz : z < 1 ∨ 1000 < z := by unfold badSize at hbad; simpa using hbad
          clear hno hbad hb hat hO hz
          by_cases hz1 : z < 1
          · go_wp2
            go_ret2
            exact ⟨by unfold NewE; rw [HNO.out]; rfl, by rw [← HBB.out]; exact HBL.out⟩
          · have hz2 : 1000 < z := by omega
            go_wp2
            go_ret2
            exact ⟨by unfold NewE; rw [HNO.out]; rfl, by rw [← HBB.out]; exact HBL.out⟩
        · have hgood : ¬ z < 1 ∧ ¬ 1000 < z := by unfold badSize at hbad; simpa using hbad
          obtain ⟨n, rfl⟩ : ∃ n : Nat, z = (n : Int) := ⟨z.toNat, by omega⟩
          have hn1 : 1 ≤ n := by omega
          have hn2 : n ≤ 1000 := by omega
          have HG2 : Hid (∀ j z, j < k + 1 → zs[j]? = some z → badSize z = false) := fun j z hj hz2 => by
            by_cases e : j = k
            · subst e; rw [hz] at hz2; injection hz2 with hz2; subst hz2; simpa using hbad
            · exact HG.out j z (by omega) hz2
          have HZ := Lib.hid hz
          have HC0 := Lib.hid hc
          obtain ⟨w1, rfl⟩ : ∃ w1, w1 = wr := ⟨wr, rfl⟩
          have HAT := Lib.hid hat
          have HO := Lib.hid hO
          have HBL := Lib.hid hb
          obtain ⟨hg1, hg2⟩ := hgood
          have q1 : decide ((n : Int) < 1) = false := decide_eq_false hg1
          have q2 : decide (1000 < (n : Int)) = false := decide_eq_false hg2
          clear hbad hz hc hat hO hb HG
          go_wp2_with fail
          clear q1 q2
          go_loopw [6, 7] (fun l i wr => ∃ j : Nat, i = .int .i64 j ∧ j ≤ n ∧ RowAt wr (fun q => w1.heap.size ≤ q) 9 1 l j (List.replicate j (.string s64)) ∧ Below w1.heap.size w1 wr) (fun _ i _ => n - (intOf i).toNat)
          case atStart => exact ⟨0, rfl, Nat.zero_le _, RowAt.nil _ _ _ _, Below.refl _ _⟩
          case round =>
            obtain ⟨j, rfl, hj, hrow, hb2⟩ := hrel
            have hcell2 : wr.cell? (a.add k) = some (.int .i64 n) := by rw [hb2.cell (World.block_lt_of_cell? w1 _ hcell)]; exact hcell
            by_cases hjn : j < n
            · have hji : (j : Int) < n := by omega
              have mk := HMK.out wr
              have cv := HCV.out wr
              have HROW := Lib.hid hrow
              have HB2 := Lib.hid hb2
              obtain ⟨iS, hiS, hzS, hsS, hbS⟩ := info_parts infoStr
              have HIS := Lib.hid (And.intro hiS (And.intro hzS (And.intro hsS hbS)))
              have b1 : Below wr.heap.size wr (wr.alloc (Obj.cells M 5)) := (Below.refl _ _).alloc (Nat.le_refl _) _
              have b2 : Below (wr.alloc (Obj.cells M 5)).heap.size (wr.alloc (Obj.cells M 5)) ((wr.alloc (Obj.cells M 5)).alloc (Obj.cells #[.string s64] 9)) := (Below.refl _ _).alloc (Nat.le_refl _) _
              have HR2 := Lib.hid ((hrow.below b1).below b2)
              have HB3 := Lib.hid (keepB (keepB hb2 b1) b2)
              clear hrow hb2 b1 b2
              go_wp2_with (first
                | (at_builtin
                   refine wpList_plain rfl fun K hK => ?_
                   refine wp_push_of (.tmp 44) (.tmp 47) 69 rfl 9 iS _ 1 16 Try.underlying69 HIS.out.1 HIS.out.2.1 HIS.out.2.2.1 HIS.out.2.2.2 rfl (by decide) _ j (List.replicate j (.string s64)) rfl (fun q => w1.heap.size ≤ q) HR2.out ⟨wr.heap.size + 1, 0, none⟩ 1 1 [.string s64] rfl rfl (World.news_of_block (heap_alloc2_new wr _ _)) (fun u hu => by rw [List.mem_singleton.1 hu]; rfl) (by simp only [maxLen]; omega) (by omega) ?_
                   intro v' w' hnew hgr hold
                   refine hK _ _ ?_
                   have HNEW := Lib.hid hnew
                   have HBN := Lib.hid (HB3.out.grown hgr HB3.out.size (fun x hx => HROW.out.2 x hx))
                   clear hnew hgr hold mk cv))
              go_roundw
              case rel => exact ⟨j + 1, by go_num, by omega, by rw [List.replicate_succ']; exact HNEW.out.owner (fun x _ hx => hx.elim id (fun h => Nat.le_trans HB3.out.size h)), HBN.out⟩
              case measure => simp [intOf]; omega
            · obtain rfl : j = n := by omega
              go_upto_region 14 with fail
              obtain ⟨w2, rfl⟩ : ∃ w2, w2 = wr := ⟨wr, rfl⟩
              have hat2 := HAT.out.below hb2
              have hO2 : ∀ q, O q ≠ .none → B ≤ q ∧ q < w1.heap.size := HO.out
              have hw12 := hb2.size
              have hO1 : ∀ q, O q ≠ .none → q < w2.heap.size := fun q hq => Nat.lt_of_lt_of_le (hO2 q hq).2 hw12
              have hBL2 : Below B w0 w2 := HBL.out.trans (hb2.mono (by have := HBL.out.size; rw [HBB.out]; exact this))
              have hkz : k ≤ zs.length := by rw [HR.out]; exact hk
              have hlen0 := Gz_len zs hkz (t := 0) (by omega)
              have hlen1' := Gz_len zs hkz (t := 1) (by omega)
              obtain ⟨vs0, a0, b0⟩ := hat2.tab 0 (by omega)
              obtain ⟨vs1, a1, b1⟩ := hat2.tab 1 (by omega)
              rw [hlen0] at a0
              rw [hlen1'] at a1
              obtain ⟨Al, cl, hlv, _, _⟩ := hrow.val
              obtain ⟨gl, cl2, hlv2, hgl, hgl2, _, _, _, _⟩ := hrow.pos (by omega)
              rw [hlv2] at hlv ⊢
              rw [hlv2] at hrow
              injection hlv with z1 z2 z3
              subst z1
              clear z2 z3
              have HHd := Lib.hid hat2.ohd
              have HO1 := Lib.hid hO1
              have HC0 : Hid (∀ W, JJ w2 O 0 1 k (L 0) (L 1) vs0 vs1 W → W.cell? ⟨B, 0, none⟩ = some (L 0)) := fun W h => h.cell (hat2.cell 0 (by omega)) (by rw [hat2.ohd]; simp) (by rw [hat2.ohd]; simp)
              have HC1 : Hid (∀ W, JJ w2 O 0 1 k (L 0) (L 1) vs0 vs1 W → W.cell? ⟨B, 1, none⟩ = some (L 1)) := fun W h => h.cell (hat2.cell 1 (by omega)) (by rw [hat2.ohd]; simp) (by rw [hat2.ohd]; simp)
              have HRAT : Hid (∀ W, JJ w2 O 0 1 k (L 0) (L 1) vs0 vs1 W → RAt W O B L (Gz zs k) (-1)) := fun W h => h.rat hat2 rfl rfl hlen0 hlen1' b0 b1
              have HCF : Hid (∀ W, JJ w2 O 0 1 k (L 0) (L 1) vs0 vs1 W → W.frozen? ⟨B, 0, none⟩ = false) := fun W h => (HRAT.out W h).free 0
              have HLC : Hid ((Value.slice (some ⟨gl, 0, none⟩) j cl2).cells = #[Value.slice (some ⟨gl, 0, none⟩) j cl2]) := rfl
              have HL1 : Hid ((Value.slice (some ⟨gl, 0, none⟩) j cl2).oneCell' = true) := rfl
              have hnone : O gl = .none := Classical.byContradiction fun e => by have := (hO2 gl e).2; have : w1.heap.size ≤ gl := hgl; omega
              have HLR : Hid (∀ W, JJ w2 O 0 1 k (L 0) (L 1) vs0 vs1 W → RowAt W (fun q => O q = .none) 9 1 (Value.slice (some ⟨gl, 0, none⟩) j cl2) j (List.replicate j (.string s64))) := fun W h =>
                h.row (hrow.ownerT fun g cur _ he _ => by injection he with he; dsimp only at he; rw [← he]; exact hnone) (fun q hq => by rw [hq]; simp)
              have HSP : Hid (0 < j ∧ j ≤ 1000 ∧ ∀ x ∈ List.replicate j (Value.string s64), x.oneCell' = true) := ⟨by omega, by omega, fun x hx => by rw [List.eq_of_mem_replicate hx]; rfl⟩
              have HEND : Hid (∀ W3 A9 c9 A8 c8 Au cu, JJ w2 O 0 1 k (L 0) (L 1) vs0 vs1 W3 → RowAt W3 (fun q => O q = .tab 0 ∨ w2.heap.size ≤ q) 69 1 (.slice A9 (k + 1) c9) (k + 1) (vs0 ++ [Value.slice (some ⟨gl, 0, none⟩) j cl2]) →
                  RowAt (W3.setCell ⟨B, 0, none⟩ (.slice A9 (k + 1) c9)) (fun q => O q = .tab 1 ∨ w2.heap.size ≤ q) 69 1 (.slice A8 (k + 1) c8) (k + 1) (vs1 ++ [.slice Au j cu]) → RowAt (W3.setCell ⟨B, 0, none⟩ (.slice A9 (k + 1) c9)) (fun q => w2.heap.size ≤ q) 9 1 (.slice Au j cu) j (List.replicate j (.string s64)) →
                  (W3.setCell ⟨B, 0, none⟩ (.slice A9 (k + 1) c9)).cell? ⟨B, 1, none⟩ = some (L 1) ∧ (W3.setCell ⟨B, 0, none⟩ (.slice A9 (k + 1) c9)).frozen? ⟨B, 1, none⟩ = false ∧
                  ∃ (O2 : Nat → RRole) (L2 : Nat → Value), RAt ((W3.setCell ⟨B, 0, none⟩ (.slice A9 (k + 1) c9)).setCell ⟨B, 1, none⟩ (.slice A8 (k + 1) c8)) O2 B L2 (fun s => if s < 2 then Gz zs (k + 1) s else Gz zs k s) (-1) ∧
                    (∀ q, O2 q ≠ .none → B ≤ q ∧ q < ((W3.setCell ⟨B, 0, none⟩ (.slice A9 (k + 1) c9)).setCell ⟨B, 1, none⟩ (.slice A8 (k + 1) c8)).heap.size) ∧ Below B w0 ((W3.setCell ⟨B, 0, none⟩ (.slice A9 (k + 1) c9)).setCell ⟨B, 1, none⟩ (.slice A8 (k + 1) c8))) := by
                intro W3 A9 c9 A8 c8 Au cu hj h3 h4 h5
                have hr3 := HRAT.out W3 hj
                have hzk : zs[k]? = some ((j : Nat) : Int) := HZ.out
                obtain ⟨g9, c9', e9, ho9, hg9, _, _, _, _⟩ := h3.pos (by omega)
                injection e9 with e9a e9b e9c
                subst e9a
                subst e9c
                have hu3 := HLR.out W3 hj
                have hnO : ∀ q, w2.heap.size ≤ q → O q = .none := fun q hq => Classical.byContradiction fun e => by have := HO1.out q e; omega
                have hB3 : O B = .hd := HHd.out
                have rowK : ∀ {t r : Nat} {E : TypeId} {sz m : Nat} {x : Value} {xs : List Value}, RowAt w2 (fun q => O q = .row t r) E sz x m xs → RowAt W3 (fun q => O q = .row t r) E sz x m xs := fun hx => hj.row hx (fun q hq => by rw [hq]; exact ⟨by simp, by simp⟩)
                have hv9 : ∀ x, (Value.slice (some ⟨g9, 0, none⟩) (k + 1) c9).ownBlock = some x → O x = .tab 0 ∨ O x = .none := fun x hx => (h3.2 x hx).imp id (hnO x)
                have hvl9 : ∀ x, (Value.slice (some ⟨gl, 0, none⟩) j cl2).ownBlock = some x → O x = .none := fun x hx => hu3.2 x hx
                have hI := hr3.install (t := 0) (by omega) (v' := .slice (some ⟨g9, 0, none⟩) (k + 1) c9) (u := .slice (some ⟨gl, 0, none⟩) j cl2) (vs := vs0) (row := rowZ (j : Int) 0) (n := k) hlen0 (by have := a0.len; omega)
                  (fun r row hr => by obtain ⟨u, hu, hx⟩ := b0 r row hr; exact ⟨u, hu, rowK hx⟩) (h3.owner fun q _ hq => hq.imp id (hnO q)) (by rw [rowZ_len j (by omega), rowZ_flat]; exact hu3)
                have hsame : ∀ q, O q ≠ .tab 0 → O q ≠ .none → iOwn O 0 k (.slice (some ⟨g9, 0, none⟩) (k + 1) c9) (.slice (some ⟨gl, 0, none⟩) j cl2) q = O q := fun q x1 x2 => iOwn_same hv9 hvl9 x1 x2
                have hglne : ∀ q, w2.heap.size ≤ q → (Value.slice (some ⟨gl, 0, none⟩) j cl2).ownBlock ≠ some q := fun q hq e => by injection e with e; dsimp only at e; omega
                have h3' : RowAt (W3.setCell ⟨B, 0, none⟩ (.slice (some ⟨g9, 0, none⟩) (k + 1) c9)) (fun _ => True) 69 1 (.slice (some ⟨g9, 0, none⟩) (k + 1) c9) (k + 1) (vs0 ++ [Value.slice (some ⟨gl, 0, none⟩) j cl2]) := rowAt_store h3 (fun g he hg => ⟨trivial, fun e => by
                  rw [e] at hg
                  rcases hg with hg | hg
                  · rw [hB3] at hg; cases hg
                  · rw [hnO B hg] at hB3; cases hB3⟩)
                have hnew : ∀ q, w2.heap.size ≤ q → (Value.slice (some ⟨g9, 0, none⟩) (k + 1) c9).ownBlock ≠ some q → iOwn O 0 k (.slice (some ⟨g9, 0, none⟩) (k + 1) c9) (.slice (some ⟨gl, 0, none⟩) j cl2) q = .none := fun q hq hne => by
                  unfold iOwn; rw [if_neg hne, if_neg (hglne q hq)]; exact hnO q hq
                have hI2 := hI.install (t := 1) (by omega) (v' := .slice A8 (k + 1) c8) (u := .slice Au j cu) (vs := vs1) (row := rowZ (j : Int) 1) (n := k) (by simpa using hlen1') (by have := a1.len; omega)
                  (fun r row hr => by
                    obtain ⟨u, hu, hx⟩ := b1 r row (by simpa using hr)
                    exact ⟨u, hu, rowAt_store (rowK hx) (fun g _ hg => ⟨by rw [hsame g (by rw [hg]; simp) (by rw [hg]; simp)]; exact hg, fun e => by rw [e, hB3] at hg; cases hg⟩)⟩)
                  (h4.ownerT fun g cur _ he hg => by
                    rcases hg with hg | hg
                    · exact Or.inl (by rw [hsame g (by rw [hg]; simp) (by rw [hg]; simp)]; exact hg)
                    · refine Or.inr (hnew g hg (fun e => ?_))
                      injection e with e
                      dsimp only at e
                      subst e
                      obtain ⟨g8, c8', e8, _, _, _, _, _, _⟩ := h4.pos (by omega)
                      injection e8 with e8a e8b e8c
                      subst e8a
                      injection he with he
                      dsimp only at he
                      subst he
                      have x1 := h3'.one (j := k) (x := Value.slice (some ⟨gl, 0, none⟩) j cl2) (by rw [List.getElem?_append_right (by have := a0.len; omega), show k - vs0.length = 0 by have := a0.len; omega]; rfl)
                      have x2 := h4.one (j := k) (x := Value.slice Au j cu) (by rw [List.getElem?_append_right (by have := a1.len; omega), show k - vs1.length = 0 by have := a1.len; omega]; rfl)
                      rw [x1] at x2
                      injection x2 with x2
                      injection x2 with x2
                      rw [← x2] at h5
                      have x3 : w2.heap.size ≤ gl := h5.2 gl rfl
                      omega)
                  (by
                    rw [rowZ_len j (by omega), rowZ_one, rowZ_flat]
                    exact h5.ownerT fun g cur _ he hg => hnew g hg (fun e => h3'.apart h5 (by decide) e he))
                have e : (fun s => if s < 2 then Gz zs (k + 1) s else Gz zs k s) = fun s => if s = 1 then (fun s => if s = 0 then Gz zs k 0 ++ [rowZ (j : Int) 0] else Gz zs k s) 1 ++ [rowZ (j : Int) 1] else (fun s => if s = 0 then Gz zs k 0 ++ [rowZ (j : Int) 0] else Gz zs k s) s := by
                  funext s
                  by_cases s0 : s = 0
                  · subst s0; simp [Gz_succ zs hzk]
                  · by_cases s1 : s = 1
                    · subst s1; simp [Gz_succ zs hzk]
                    · have : ¬ s < 2 := by omega
                      simp [s0, s1, this]
                rw [e]
                refine ⟨by have := hI.cell 1 (by omega); simpa using this, hI.free 1, _, _, hI2, fun q hq => ?_, ?_⟩
                · have hz4 : (W3.setCell ⟨B, 0, none⟩ (.slice (some ⟨g9, 0, none⟩) (k + 1) c9)).heap.size = W3.heap.size := by simp
                  have hz5 : ((W3.setCell ⟨B, 0, none⟩ (.slice (some ⟨g9, 0, none⟩) (k + 1) c9)).setCell ⟨B, 1, none⟩ (.slice A8 (k + 1) c8)).heap.size = W3.heap.size := by simp
                  rw [hz5]
                  have hsz := hj.touch.size
                  have hBw : B ≤ w2.heap.size := by have := hBL2.size; have := HBB.out; omega
                  have old : O q ≠ .none → B ≤ q ∧ q < W3.heap.size := fun x => ⟨(hO2 q x).1, by have := HO1.out q x; omega⟩
                  have lO : ∀ x, O x = .tab 0 ∨ w2.heap.size ≤ x → B ≤ x := fun x hx => hx.elim (fun e => (hO2 x (by rw [e]; simp)).1) (fun e => by omega)
                  have lO1 : ∀ x, O x = .tab 1 ∨ w2.heap.size ≤ x → B ≤ x := fun x hx => hx.elim (fun e => (hO2 x (by rw [e]; simp)).1) (fun e => by omega)
                  rcases iOwn_some hq with hq | hq | hq
                  · rcases iOwn_some hq with hq | hq | hq
                    · exact old hq
                    · exact ⟨lO q (h3.2 q hq), (h3.1.lt q hq).2⟩
                    · injection hq with hq
                      dsimp only at hq
                      subst hq
                      exact ⟨by have := HBL.out.size; have := HBB.out; omega, by omega⟩
                  · exact ⟨lO1 q (h4.2 q hq), by have := (h4.1.lt q hq).2; omega⟩
                  · have h6 : w2.heap.size ≤ q := h5.2 q hq
                    exact ⟨by omega, by have := (h5.1.lt q hq).2; omega⟩
                · have hBw : B ≤ w2.heap.size := by have := hBL2.size; have := HBB.out; omega
                  exact ((hBL2.trans (hj.touch.below hBw (fun x hx => (hO2 x (by rcases hx with hx | hx; rw [show O x = _ from a0.2 x hx]; simp; rw [show O x = _ from a1.2 x hx]; simp)).1))).setCell (Nat.le_refl _) _).setCell (Nat.le_refl _) _
              go_cut [4, 5] (fun s4 s5 wx => s4 = .pointer (some ⟨B, 0, none⟩) ∧ s5 = .int .i64 k ∧ ∃ (O2 : Nat → RRole) (L2 : Nat → Value), RAt wx O2 B L2 (fun s => if s < 2 then Gz zs (k + 1) s else Gz zs k s) (-1) ∧ (∀ q, O2 q ≠ .none → B ≤ q ∧ q < wx.heap.size) ∧ Below B w0 wx)
              case first =>
                have hJ0 : JN14 w2 O B k (L 0) (L 1) (Value.slice (some ⟨gl, 0, none⟩) j cl2) vs0 vs1 (fun _ => false) w2.drew := Or.inl ⟨rfl, ⟨fun h => (by cases h), fun h => (by cases h)⟩, ⟨(Touch.refl _ _).drew, a0, a1⟩⟩
                have h0t : ∀ x, (L 0).ownBlock = some x → O x = .tab 0 := fun x hx => a0.2 x hx
                have h1t : ∀ x, (L 1).ownBlock = some x → O x = .tab 1 := fun x hx => a1.2 x hx
                generalize hl0 : L 0 = l0 at *
                generalize hl1 : L 1 = l1 at *
                generalize hvl : Value.slice (some ⟨gl, 0, none⟩) j cl2 = l at *
                refine wp_region_rgj (VN14 B w2.heap.size k j O l0 l1 l vs0 vs1 (List.replicate j (.string s64))) (JN14 w2 O B k l0 l1 l vs0 vs1) (fun i => SN 8 17 20 B l0 l1 i) (by kernel_rfl) (by kernel_rfl) (fun i j v w w' hij h hs => h.on hij HO1.out HHd.out h0t h1t hs) hJ0 ?_
                generalize hxs : List.replicate j (Value.string s64) = xs at *
                clear hJ0
                simp only [RAll]
                refine ⟨?_, ?_, ?_, ?_, ?_, ?_, ?_, ?_, ?_, ?_, ?_, ?_, ?_, ?_, ?_, ?_, ?_, ?_, ?_, ?_, ?_, ?_, ?_, ?_⟩
                · refine RStepJ.of rfl fun T W Ls hag hni hJ hdn hd => ?_
                  have e4 : T.getD 4 undef = _ := (agree_at hag 4 (by kernel_rfl)).trans rfl
                  clear hag hd hdn
                  go_simp
                  exact ⟨_, rfl, rfl, hJ.add' 0 (by decide), SN.quiet 0 (by decide) (by decide) (by decide) (World.grownBy.refl _ _)⟩
                · refine RStepJ.of rfl fun T W Ls hag hni hJ hdn hd => ?_
                  have e4 : T.getD 4 undef = _ := (agree_at hag 4 (by kernel_rfl)).trans rfl
                  clear hag hd hdn
                  go_simp
                  exact ⟨_, rfl, rfl, hJ.add' 1 (by decide), SN.quiet 1 (by decide) (by decide) (by decide) (World.grownBy.refl _ _)⟩
                · refine RStepJ.of rfl fun T W Ls hag hni hJ hdn hd => ?_
                  have e4 : T.getD 4 undef = _ := (agree_at hag 4 (by kernel_rfl)).trans rfl
                  clear hag hd hdn
                  go_simp
                  exact ⟨_, rfl, rfl, hJ.add' 2 (by decide), SN.quiet 2 (by decide) (by decide) (by decide) (World.grownBy.refl _ _)⟩
                · refine RStepJ.of rfl fun T W Ls hag hni hJ hdn hd => ?_
                  have d51 : T.getD 51 undef = _ := hd ⟨2, .data⟩ (by simp) rfl _ rfl
                  clear hag hd hdn
                  go_simp
                  exact ⟨_, rfl, rfl, hJ.add' 3 (by decide), SN.quiet 3 (by decide) (by decide) (by decide) (World.grownBy.refl _ _)⟩
                · refine RStepJ.of rfl fun T W Ls hag hni hJ hdn hd => ?_
                  have d52 : T.getD 52 undef = _ := hd ⟨3, .data⟩ (by simp) rfl _ rfl
                  clear hag hd hdn
                  go_simp
                  exact ⟨_, rfl, rfl, hJ.add' 4 (by decide), SN.quiet 4 (by decide) (by decide) (by decide) (World.grownBy.refl _ _)⟩
                · refine RStepJ.of rfl fun T W Ls hag hni hJ hdn hd => ?_
                  have d53 : T.getD 53 undef = _ := hd ⟨4, .data⟩ (by simp) rfl _ rfl
                  have fct0 := HC0.out W (hJ.fresh 5 (by decide) hni)
                  clear hag hd hdn
                  go_simp
                  exact ⟨_, rfl, rfl, hJ.add' 5 (by decide), SN.quiet 5 (by decide) (by decide) (by decide) (World.grownBy.refl _ _)⟩
                · refine RStepJ.of rfl fun T W Ls hag hni hJ hdn hd => ?_
                  have e6 : T.getD 6 undef = _ := (agree_at hag 6 (by kernel_rfl)).trans rfl
                  clear hag hd hdn
                  go_simp
                  exact ⟨_, rfl, rfl, hJ.add' 6 (by decide), SN.quiet 6 (by decide) (by decide) (by decide) (World.grownBy.refl _ _)⟩
                · refine RStepJ.of rfl fun T W Ls hag hni hJ hdn hd => ?_
                  have d55 : T.getD 55 undef = _ := hd ⟨6, .data⟩ (by simp) rfl _ rfl
                  have hw := hJ.fresh 7 (by decide) hni
                  obtain ⟨i0, hi0, hz0, hz1, hz2⟩ := info_parts infoSL
                  refine wp_one_of 65 (.tmp 55) rfl 69 i0 _ 1 Try.underlying65 hi0 hz0 hz1 (by decide) (by decide) _ d55 (by rw [HLC.out]; rfl) ?_
                  rw [HLC.out]
                  exact ⟨_, rfl, ⟨W.heap.size, rfl, hw.touch.size, heap_alloc_new W _⟩, hJ.grow 7 (by decide) hni (hw.grow (World.grownBy_alloc W _ _)) (fun h => absurd h (by decide)) (fun h => absurd h (by decide)), SN.quiet 7 (by decide) (by decide) (by decide) (World.grownBy_alloc W _ _)⟩
                · refine RStepJ.of rfl fun T W Ls hag hni hJ hdn hd => ?_
                  have d54 : T.getD 54 undef = _ := hd ⟨5, .data⟩ (by simp) rfl _ rfl
                  have x56 := hd ⟨7, .data⟩ (by simp) rfl _ rfl
                  have hw := hJ.fresh 8 (by decide) hni
                  obtain ⟨x, (d56 : T.getD 56 undef = _), hx1, hx2⟩ := x56
                  obtain ⟨i0, hi0, hz0, hz1, hz2⟩ := info_parts infoSL
                  refine wp_push_of (.tmp 54) (.tmp 56) 65 rfl 69 i0 _ 1 24 Try.underlying65 hi0 hz0 hz1 hz2 rfl (by decide) l0 k vs0 d54 _ hw.t0 ⟨x, 0, none⟩ 1 1 [l] d56 rfl (World.news_of_block hx2) (fun u hu => by rw [List.mem_singleton.1 hu]; exact HL1.out) (by simp only [maxLen]; omega) (by omega) ?_
                  intro v' w' hnew hgr hold
                  refine ⟨_, rfl, hnew.owner (fun y _ hy => hy.imp id (fun h => Nat.le_trans hw.touch.size h)), hJ.grow 8 (by decide) hni (hw.push0 (by decide) hgr hold) (fun h => absurd h (by decide)) (fun h => absurd h (by decide)), ?_⟩
                  unfold SN; rw [if_pos rfl]; exact hgr
                · refine RStepJ.of rfl fun T W Ls hag hni hJ hdn hd => ?_
                  have e4 : T.getD 4 undef = _ := (agree_at hag 4 (by kernel_rfl)).trans rfl
                  clear hag hd hdn
                  go_simp
                  exact ⟨_, rfl, rfl, hJ.add' 9 (by decide), SN.quiet 9 (by decide) (by decide) (by decide) (World.grownBy.refl _ _)⟩
                · refine RStepJ.of rfl fun T W Ls hag hni hJ hdn hd => ?_
                  have d58 : T.getD 58 undef = _ := hd ⟨9, .data⟩ (by simp) rfl _ rfl
                  clear hag hd hdn
                  go_simp
                  exact ⟨_, rfl, rfl, hJ.add' 10 (by decide), SN.quiet 10 (by decide) (by decide) (by decide) (World.grownBy.refl _ _)⟩
                · refine RStepJ.of rfl fun T W Ls hag hni hJ hdn hd => ?_
                  have d59 : T.getD 59 undef = _ := hd ⟨10, .data⟩ (by simp) rfl _ rfl
                  clear hag hd hdn
                  go_simp
                  exact ⟨_, rfl, rfl, hJ.add' 11 (by decide), SN.quiet 11 (by decide) (by decide) (by decide) (World.grownBy.refl _ _)⟩
                · refine RStepJ.of rfl fun T W Ls hag hni hJ hdn hd => ?_
                  have d60 : T.getD 60 undef = _ := hd ⟨11, .data⟩ (by simp) rfl _ rfl
                  have fct0 := HC1.out W (hJ.fresh 12 (by decide) hni)
                  clear hag hd hdn
                  go_simp
                  exact ⟨_, rfl, rfl, hJ.add' 12 (by decide), SN.quiet 12 (by decide) (by decide) (by decide) (World.grownBy.refl _ _)⟩
                · refine RStepJ.of rfl fun T W Ls hag hni hJ hdn hd => ?_
                  have hw := hJ.fresh 13 (by decide) hni
                  clear hag hd hdn
                  go_simp
                  exact ⟨_, rfl, ⟨W.heap.size, rfl, hw.touch.size, heap_alloc_new W _⟩, hJ.grow' 13 (by decide) hni (hw.grow (World.grownBy_alloc W _ _)) (fun h => absurd h (by decide)) (fun h => absurd h (by decide)), SN.quiet 13 (by decide) (by decide) (by decide) (World.grownBy_alloc W _ _)⟩
                · refine RStepJ.of rfl fun T W Ls hag hni hJ hdn hd => ?_
                  have e6 : T.getD 6 undef = _ := (agree_at hag 6 (by kernel_rfl)).trans rfl
                  clear hag hd hdn
                  go_simp
                  exact ⟨_, rfl, rfl, hJ.add' 14 (by decide), SN.quiet 14 (by decide) (by decide) (by decide) (World.grownBy.refl _ _)⟩
                · refine RStepJ.of rfl fun T W Ls hag hni hJ hdn hd => ?_
                  have x62 := hd ⟨13, .data⟩ (by simp) rfl _ rfl
                  have d63 : T.getD 63 undef = _ := hd ⟨14, .data⟩ (by simp) rfl _ rfl
                  have hw := hJ.fresh 15 (by decide) hni
                  obtain ⟨q, (d62 : T.getD 62 undef = _), hq, hqc⟩ := x62
                  obtain ⟨v', W2, hrun, hrow, hb, hsl⟩ := copy_run (HLR.out W hw) HSP.out.1 HSP.out.2.1 HSP.out.2.2 q hqc 69
                  refine wp_app_run (.tmp 62) (.tmp 63) 69 69 rfl _ _ v' W2 d62 d63 hrun ?_
                  exact ⟨_, rfl, ⟨hrow.owner (fun k _ hk => Nat.le_trans hw.touch.size hk), hsl⟩, hJ.grow 15 (by decide) hni (hw.grow (growN hb)) (fun _ => hdn ⟨13, .data⟩ (by simp) rfl) (fun h => absurd h (by decide)), SN.quiet 15 (by decide) (by decide) (by decide) (growN hb)⟩
                · refine RStepJ.of rfl fun T W Ls hag hni hJ hdn hd => ?_
                  have x64 := hd ⟨15, .data⟩ (by simp) rfl _ rfl
                  have hw := hJ.fresh 16 (by decide) hni
                  obtain ⟨hur, Au, cu, (d64 : T.getD 64 undef = _)⟩ := x64
                  have hur' : RowAt W (fun q => w2.heap.size ≤ q) 9 1 (T.getD 64 undef) j xs := hur
                  rw [d64] at hur'
                  obtain ⟨i0, hi0, hz0, hz1, hz2⟩ := info_parts infoSL
                  refine wp_one_of 65 (.tmp 64) rfl 69 i0 _ 1 Try.underlying65 hi0 hz0 hz1 (by decide) (by decide) _ d64 rfl ?_
                  exact ⟨_, rfl, ⟨W.heap.size, _, rfl, hw.touch.size, heap_alloc_new W _, hur'.keep fun x hx _ => Below.heap_alloc W _ x hx, Au, cu, rfl⟩, hJ.grow 16 (by decide) hni (hw.grow (World.grownBy_alloc W _ _)) (fun h => absurd h (by decide)) (fun h => absurd h (by decide)), SN.quiet 16 (by decide) (by decide) (by decide) (World.grownBy_alloc W _ _)⟩
                · refine RStepJ.of rfl fun T W Ls hag hni hJ hdn hd => ?_
                  have d61 : T.getD 61 undef = _ := hd ⟨12, .data⟩ (by simp) rfl _ rfl
                  have x65 := hd ⟨16, .data⟩ (by simp) rfl _ rfl
                  have hw := hJ.fresh 17 (by decide) hni
                  obtain ⟨x, u, (d65 : T.getD 65 undef = _), hx1, hx2, hur, Au, cu, rfl⟩ := x65
                  obtain ⟨i0, hi0, hz0, hz1, hz2⟩ := info_parts infoSL
                  refine wp_push_of (.tmp 61) (.tmp 65) 65 rfl 69 i0 _ 1 24 Try.underlying65 hi0 hz0 hz1 hz2 rfl (by decide) l1 k vs1 d61 _ hw.t1 ⟨x, 0, none⟩ 1 1 [.slice Au j cu] d65 rfl (World.news_of_block hx2) (fun u hu => by rw [List.mem_singleton.1 hu]; rfl) (by simp only [maxLen]; omega) (by omega) ?_
                  intro v' w' hnew hgr hold
                  refine ⟨_, rfl, ⟨_, hnew.owner (fun y _ hy => hy.imp id (fun h => Nat.le_trans hw.touch.size h)), hur.keep fun y hy e => hgr.block y hy (fun e2 => ?_), Au, cu, rfl⟩, hJ.grow 17 (by decide) hni (hw.push1 (by decide) hgr hold) (fun h => absurd h (by decide)) (fun _ => hdn ⟨16, .data⟩ (by simp) rfl), ?_⟩
                  · have h2 : O y = .tab 1 := hw.t1.2 y e2.symm
                    have := HO1.out y (by rw [h2]; simp)
                    omega
                  · unfold SN; rw [if_neg (by decide), if_pos rfl]; exact hgr
                · refine RStepJ.of rfl fun T W Ls hag hni hJ hdn hd => ?_
                  have d49 : T.getD 49 undef = _ := hd ⟨0, .data⟩ (by simp) rfl _ rfl
                  clear hag hd hdn
                  go_simp
                  exact ⟨_, rfl, rfl, hJ.add' 18 (by decide), SN.quiet 18 (by decide) (by decide) (by decide) (World.grownBy.refl _ _)⟩
                · refine RStepJ.of rfl fun T W Ls hag hni hJ hdn hd => ?_
                  have d67 : T.getD 67 undef = _ := hd ⟨18, .data⟩ (by simp) rfl _ rfl
                  clear hag hd hdn
                  go_simp
                  exact ⟨_, rfl, rfl, hJ.add' 19 (by decide), SN.quiet 19 (by decide) (by decide) (by decide) (World.grownBy.refl _ _)⟩
                · refine RStepJ.of rfl fun T W Ls hag hni hJ hdn hd => ?_
                  have d68 : T.getD 68 undef = _ := hd ⟨19, .data⟩ (by simp) rfl _ rfl
                  have x57 := hd ⟨8, .data⟩ (by simp) rfl _ rfl
                  have hw := hJ.fresh 20 (by decide) hni
                  have x57' : RowAt W (fun q => O q = .tab 0 ∨ w2.heap.size ≤ q) 69 1 (T.getD 57 undef) (k + 1) (vs0 ++ [l]) := x57
                  obtain ⟨A9, c9, e57, _, _⟩ := x57'.val
                  rw [e57] at x57'
                  have cc : W.cell? ⟨B, 0, none⟩ = some l0 := HC0.out W hw
                  have cf : W.frozen? ⟨B, 0, none⟩ = false := HCF.out W hw
                  have hdeps := And.intro (hdn ⟨5, .phase⟩ (by simp) rfl) (And.intro (hdn ⟨7, .phase⟩ (by simp) rfl) (And.intro (hdn ⟨8, .data⟩ (by simp) rfl) (And.intro (hdn ⟨12, .phase⟩ (by simp) rfl) (And.intro (hdn ⟨15, .phase⟩ (by simp) rfl) (hdn ⟨17, .phase⟩ (by simp) rfl)))))
                  have HJ2 : Hid (JN14 w2 O B k l0 l1 l vs0 vs1 (fun j => decide (20 = j) || Ls j) (W.setCell ⟨B, 0, none⟩ (.slice A9 (k + 1) c9))) := hJ.store hni hdeps hw x57' ⟨_, _, rfl⟩
                  have HS2 : Hid (SN 8 17 20 B l0 l1 20 W (W.setCell ⟨B, 0, none⟩ (.slice A9 (k + 1) c9))) := by
                    show SN _ _ _ _ _ _ _ _ _; unfold SN; rw [if_neg (by decide), if_neg (by decide), if_pos rfl]; exact (Touch.refl (fun q => q = B) W).setCell (p := ⟨B, 0, none⟩) rfl _
                  rw [Array.getD_eq_getD_getElem?] at e57
                  clear hag hd hdn x57 x57' hdeps
                  go_simp
                  exact ⟨trivial, HJ2.out, HS2.out⟩
                · refine RStepJ.of rfl fun T W Ls hag hni hJ hdn hd => ?_
                  have d50 : T.getD 50 undef = _ := hd ⟨1, .data⟩ (by simp) rfl _ rfl
                  clear hag hd hdn
                  go_simp
                  exact ⟨_, rfl, rfl, hJ.add' 21 (by decide), SN.quiet 21 (by decide) (by decide) (by decide) (World.grownBy.refl _ _)⟩
                · refine RStepJ.of rfl fun T W Ls hag hni hJ hdn hd => ?_
                  have d69 : T.getD 69 undef = _ := hd ⟨21, .data⟩ (by simp) rfl _ rfl
                  clear hag hd hdn
                  go_simp
                  exact ⟨_, rfl, rfl, hJ.add' 22 (by decide), SN.quiet 22 (by decide) (by decide) (by decide) (World.grownBy.refl _ _)⟩
                · refine RLastJ.of rfl fun T W Ls hag hall hni hJ hd => ?_
                  have d70 : T.getD 70 undef = _ := hd 22 _ (by simp) rfl
                  have x66 := hd 17 _ (by simp) rfl
                  obtain ⟨W3, v9, hj3, hrow3, ⟨A9, c9, rfl⟩, rfl⟩ := hJ.done (hall 20 (by decide))
                  obtain ⟨u, hv1, hur, Au, cu, rfl⟩ := hd 17 _ (by simp) rfl
                  have hv1' : RowAt (W3.setCell ⟨B, 0, none⟩ (.slice A9 (k + 1) c9)) (fun q => O q = .tab 1 ∨ w2.heap.size ≤ q) 69 1 (T.getD 66 undef) (k + 1) (vs1 ++ [.slice Au j cu]) := hv1
                  obtain ⟨A8, c8, e66, hx9, hy9⟩ := hv1'.val
                  clear hx9 hy9
                  rw [e66] at hv1'
                  have HFIN := Lib.hid (HEND.out W3 A9 c9 A8 c8 Au cu hj3 hrow3 hv1' hur)
                  obtain ⟨f, hf, hT⟩ := agree_fn hag
                  have h66 := (hf 66).trans e66
                  have h70 := (hf 70).trans d70
                  have cc : (W3.setCell ⟨B, 0, none⟩ (.slice A9 (k + 1) c9)).cell? ⟨B, 1, none⟩ = some l1 := HFIN.out.1
                  have cf : (W3.setCell ⟨B, 0, none⟩ (.slice A9 (k + 1) c9)).frozen? ⟨B, 1, none⟩ = false := HFIN.out.2.1
                  clear hag hd d70 hf hv1 hv1' hur hj3 hrow3 hJ hall hni e66
                  rw [hT]
                  clear hT
                  simp only [List.filterMap_cons, List.filterMap_nil, List.foldl_cons, List.foldl_nil, List.setIfInBounds_toArray, List.set_cons_succ, List.set_cons_zero, h66, h70]
                  rename_i hJc hKc
                  go_wp2_with fail
                  refine hJc _ _ ?_
                  repeat apply Exists.intro
                  exact ⟨⟨rfl, rfl, HFIN.out.2.2⟩, rfl⟩
              case rest =>
                obtain ⟨rfl, rfl, O3, L3, hat3, hO3, hb3⟩ := hcut
                obtain ⟨w3, rfl⟩ : ∃ w3, w3 = wc := ⟨wc, rfl⟩
                clear HEND HLR HRAT HC0 HC1 HCF HHd HO1 hat2 hO2 hO1 a0 a1 b0 b1 hnone hlen0 hlen1' hrow hgl hgl2 hcell hcell2 HLC HL1 hlv2
                have hkz' := hkz
                have len2 : ((fun s => if s < 2 then Gz zs (k + 1) s else Gz zs k s) 2).length = k := Gz_len zs hkz (t := 2) (by omega)
                have len3 : ((fun s => if s < 2 then Gz zs (k + 1) s else Gz zs k s) 3).length = k := Gz_len zs hkz (t := 3) (by omega)
                obtain ⟨us0, c0, d0⟩ := hat3.tab 2 (by omega)
                obtain ⟨us1, c1, d1⟩ := hat3.tab 3 (by omega)
                rw [len2] at c0
                rw [len3] at c1
                have KO : Hid (∀ q, O3 q ≠ .none → q < w3.heap.size) := fun q hq => (hO3 q hq).2
                have KHd := Lib.hid hat3.ohd
                have KC0 : Hid (∀ W, JJ w3 O3 2 3 k (L3 2) (L3 3) us0 us1 W → W.cell? ⟨B, 2, none⟩ = some (L3 2)) := fun W h => h.cell (hat3.cell 2 (by omega)) (by rw [hat3.ohd]; simp) (by rw [hat3.ohd]; simp)
                have KC1 : Hid (∀ W, JJ w3 O3 2 3 k (L3 2) (L3 3) us0 us1 W → W.cell? ⟨B, 3, none⟩ = some (L3 3)) := fun W h => h.cell (hat3.cell 3 (by omega)) (by rw [hat3.ohd]; simp) (by rw [hat3.ohd]; simp)
                have KRAT : Hid (∀ W, JJ w3 O3 2 3 k (L3 2) (L3 3) us0 us1 W → RAt W O3 B L3 (fun s => if s < 2 then Gz zs (k + 1) s else Gz zs k s) (-1)) := fun W h => h.rat hat3 rfl rfl len2 len3 d0 d1
                have KCF : Hid (∀ W, JJ w3 O3 2 3 k (L3 2) (L3 3) us0 us1 W → W.frozen? ⟨B, 2, none⟩ = false) := fun W h => (KRAT.out W h).free 2
                have KEND : Hid (∀ W3 A9 c9 A8 c8, JJ w3 O3 2 3 k (L3 2) (L3 3) us0 us1 W3 → RowAt W3 (fun q => O3 q = .tab 2 ∨ w3.heap.size ≤ q) 77 1 (.slice A9 (k + 1) c9) (k + 1) (us0 ++ [.slice none 0 0]) →
                    RowAt (W3.setCell ⟨B, 2, none⟩ (.slice A9 (k + 1) c9)) (fun q => O3 q = .tab 3 ∨ w3.heap.size ≤ q) 69 1 (.slice A8 (k + 1) c8) (k + 1) (us1 ++ [.slice none 0 0]) →
                    (W3.setCell ⟨B, 2, none⟩ (.slice A9 (k + 1) c9)).cell? ⟨B, 3, none⟩ = some (L3 3) ∧ (W3.setCell ⟨B, 2, none⟩ (.slice A9 (k + 1) c9)).frozen? ⟨B, 3, none⟩ = false ∧
                    ∃ (O4 : Nat → RRole) (L4 : Nat → Value), RAt ((W3.setCell ⟨B, 2, none⟩ (.slice A9 (k + 1) c9)).setCell ⟨B, 3, none⟩ (.slice A8 (k + 1) c8)) O4 B L4 (Gz zs (k + 1)) (-1) ∧
                      (∀ q, O4 q ≠ .none → B ≤ q ∧ q < ((W3.setCell ⟨B, 2, none⟩ (.slice A9 (k + 1) c9)).setCell ⟨B, 3, none⟩ (.slice A8 (k + 1) c8)).heap.size) ∧ Below B w0 ((W3.setCell ⟨B, 2, none⟩ (.slice A9 (k + 1) c9)).setCell ⟨B, 3, none⟩ (.slice A8 (k + 1) c8))) := by
                  intro W3 A9 c9 A8 c8 hj h3 h4
                  have hr3 := KRAT.out W3 hj
                  have hzk : zs[k]? = some ((j : Nat) : Int) := HZ.out
                  have hnO : ∀ q, w3.heap.size ≤ q → O3 q = .none := fun q hq => Classical.byContradiction fun e => by have := KO.out q e; omega
                  have hB3 : O3 B = .hd := KHd.out
                  have rowK : ∀ {t r : Nat} {E : TypeId} {sz m : Nat} {x : Value} {xs : List Value}, RowAt w3 (fun q => O3 q = .row t r) E sz x m xs → RowAt W3 (fun q => O3 q = .row t r) E sz x m xs := fun hx => hj.row hx (fun q hq => by rw [hq]; exact ⟨by simp, by simp⟩)
                  have hv9 : ∀ x, (Value.slice A9 (k + 1) c9).ownBlock = some x → O3 x = .tab 2 ∨ O3 x = .none := fun x hx => (h3.2 x hx).imp id (hnO x)
                  have hnil : ∀ x, (Value.slice none 0 0).ownBlock = some x → O3 x = .none := fun x hx => by cases hx
                  have hI := hr3.install (t := 2) (by omega) (v' := .slice A9 (k + 1) c9) (u := .slice none 0 0) (vs := us0) (row := rowZ (j : Int) 2) (n := k) len2 (by have := c0.len; omega)
                    (fun r row hr => by obtain ⟨u, hu, hx⟩ := d0 r row hr; exact ⟨u, hu, rowK hx⟩) (h3.owner fun q _ hq => hq.imp id (hnO q)) (RowAt.nil _ _ _ _)
                  have hsame : ∀ q, O3 q ≠ .tab 2 → O3 q ≠ .none → iOwn O3 2 k (.slice A9 (k + 1) c9) (.slice none 0 0) q = O3 q := fun q x1 x2 => iOwn_same hv9 hnil x1 x2
                  have h3' : RowAt (W3.setCell ⟨B, 2, none⟩ (.slice A9 (k + 1) c9)) (fun _ => True) 77 1 (.slice A9 (k + 1) c9) (k + 1) (us0 ++ [.slice none 0 0]) := rowAt_store h3 (fun g he hg => ⟨trivial, fun e => by
                    rw [e] at hg
                    rcases hg with hg | hg
                    · rw [hB3] at hg; cases hg
                    · rw [hnO B hg] at hB3; cases hB3⟩)
                  have hnew : ∀ q, w3.heap.size ≤ q → (Value.slice A9 (k + 1) c9).ownBlock ≠ some q → iOwn O3 2 k (.slice A9 (k + 1) c9) (.slice none 0 0) q = .none := fun q hq hne => by
                    unfold iOwn; rw [if_neg hne, if_neg (by intro e; cases e)]; exact hnO q hq
                  have hI2 := hI.install (t := 3) (by omega) (v' := .slice A8 (k + 1) c8) (u := .slice none 0 0) (vs := us1) (row := rowZ (j : Int) 3) (n := k) (by simpa using len3) (by have := c1.len; omega)
                    (fun r row hr => by
                      obtain ⟨u, hu, hx⟩ := d1 r row (by simpa using hr)
                      exact ⟨u, hu, rowAt_store (rowK hx) (fun g _ hg => ⟨by rw [hsame g (by rw [hg]; simp) (by rw [hg]; simp)]; exact hg, fun e => by rw [e, hB3] at hg; cases hg⟩)⟩)
                    (h4.ownerT fun g cur _ he hg => by
                      rcases hg with hg | hg
                      · exact Or.inl (by rw [hsame g (by rw [hg]; simp) (by rw [hg]; simp)]; exact hg)
                      · exact Or.inr (hnew g hg (fun e => h3'.apart h4 (by decide) e he)))
                    (RowAt.nil _ _ _ _)
                  have e : Gz zs (k + 1) = fun s => if s = 3 then (fun s => if s = 2 then (fun s => if s < 2 then Gz zs (k + 1) s else Gz zs k s) 2 ++ [rowZ (j : Int) 2] else (fun s => if s < 2 then Gz zs (k + 1) s else Gz zs k s) s) 3 ++ [rowZ (j : Int) 3] else (fun s => if s = 2 then (fun s => if s < 2 then Gz zs (k + 1) s else Gz zs k s) 2 ++ [rowZ (j : Int) 2] else (fun s => if s < 2 then Gz zs (k + 1) s else Gz zs k s) s) s := by
                    funext s
                    by_cases s3 : s = 3
                    · subst s3; simp [Gz_succ zs hzk]
                    · by_cases s2 : s = 2
                      · subst s2; simp [Gz_succ zs hzk]
                      · by_cases s1 : s < 2
                        · simp [s3, s2, s1]
                        · simp only [if_neg s3, if_neg s2, if_neg s1]
                          rw [Gz_far zs _ (by omega), Gz_far zs _ (by omega)]
                  rw [e]
                  refine ⟨by have := hI.cell 3 (by omega); simpa using this, hI.free 3, _, _, hI2, fun q hq => ?_, ?_⟩
                  · have hz5 : ((W3.setCell ⟨B, 2, none⟩ (.slice A9 (k + 1) c9)).setCell ⟨B, 3, none⟩ (.slice A8 (k + 1) c8)).heap.size = W3.heap.size := by simp
                    have hz4 : (W3.setCell ⟨B, 2, none⟩ (.slice A9 (k + 1) c9)).heap.size = W3.heap.size := by simp
                    rw [hz5]
                    have hsz := hj.touch.size
                    have hBw : B ≤ w3.heap.size := by have := hb3.size; have := HBB.out; omega
                    rcases iOwn_some hq with hq | hq | hq
                    · rcases iOwn_some hq with hq | hq | hq
                      · exact ⟨(hO3 q hq).1, by have := (hO3 q hq).2; omega⟩
                      · exact ⟨(h3.2 q hq).elim (fun x => (hO3 q (by rw [x]; simp)).1) (fun x => by omega), (h3.1.lt q hq).2⟩
                      · cases hq
                    · exact ⟨(h4.2 q hq).elim (fun x => (hO3 q (by rw [x]; simp)).1) (fun x => by omega), by have := (h4.1.lt q hq).2; omega⟩
                    · cases hq
                  · have hBw : B ≤ w3.heap.size := by have := hb3.size; have := HBB.out; omega
                    exact ((hb3.trans (hj.touch.below hBw (fun x hx => (hO3 x (by rcases hx with hx | hx; rw [show O3 x = _ from c0.2 x hx]; simp; rw [show O3 x = _ from c1.2 x hx]; simp)).1))).setCell (Nat.le_refl _) _).setCell (Nat.le_refl _) _
                have hJ0 : JN15 w3 O3 B k (L3 2) (L3 3) us0 us1 (fun _ => false) w3.drew := Or.inl ⟨rfl, fun h => (by cases h), ⟨(Touch.refl _ _).drew, c0, c1⟩⟩
                have h0t : ∀ x, (L3 2).ownBlock = some x → O3 x = .tab 2 := fun x hx => c0.2 x hx
                have h1t : ∀ x, (L3 3).ownBlock = some x → O3 x = .tab 3 := fun x hx => c1.2 x hx
                generalize hl0 : L3 2 = l0 at *
                generalize hl1 : L3 3 = l1 at *
                clear KRAT hat3 hO3 hb3 c0 c1 d0 d1 len2 len3
                obtain ⟨vs0, hv0⟩ : ∃ x, x = us0 := ⟨us0, rfl⟩
                obtain ⟨vs1, hv1⟩ : ∃ x, x = us1 := ⟨us1, rfl⟩
                rw [← hv0, ← hv1] at KEND KC0 KC1 KCF hJ0
                clear hv0 hv1
                go_upto_region 15 with fail
                refine wp_region_rgj (VN15 B w3.heap.size k O3 l0 l1 vs0 vs1) (JN15 w3 O3 B k l0 l1 vs0 vs1) (fun i => SN 7 13 16 B l0 l1 i) (by kernel_rfl) (by kernel_rfl) (fun i j v w w' hij h hs => h.on hij KO.out KHd.out h0t h1t hs) hJ0 ?_
                clear hJ0
                simp only [RAll]
                refine ⟨?_, ?_, ?_, ?_, ?_, ?_, ?_, ?_, ?_, ?_, ?_, ?_, ?_, ?_, ?_, ?_, ?_, ?_, ?_, ?_⟩
                · refine RStepJ.of rfl fun T W Ls hag hni hJ hdn hd => ?_
                  have e4 : T.getD 4 undef = _ := (agree_at hag 4 (by kernel_rfl)).trans rfl
                  clear hag hd hdn
                  go_simp
                  exact ⟨_, rfl, rfl, hJ.add' 0 (by decide), SN.quiet 0 (by decide) (by decide) (by decide) (World.grownBy.refl _ _)⟩
                · refine RStepJ.of rfl fun T W Ls hag hni hJ hdn hd => ?_
                  have e4 : T.getD 4 undef = _ := (agree_at hag 4 (by kernel_rfl)).trans rfl
                  clear hag hd hdn
                  go_simp
                  exact ⟨_, rfl, rfl, hJ.add' 1 (by decide), SN.quiet 1 (by decide) (by decide) (by decide) (World.grownBy.refl _ _)⟩
                · refine RStepJ.of rfl fun T W Ls hag hni hJ hdn hd => ?_
                  have e4 : T.getD 4 undef = _ := (agree_at hag 4 (by kernel_rfl)).trans rfl
                  clear hag hd hdn
                  go_simp
                  exact ⟨_, rfl, rfl, hJ.add' 2 (by decide), SN.quiet 2 (by decide) (by decide) (by decide) (World.grownBy.refl _ _)⟩
                · refine RStepJ.of rfl fun T W Ls hag hni hJ hdn hd => ?_
                  have d73 : T.getD 73 undef = _ := hd ⟨2, .data⟩ (by simp) rfl _ rfl
                  clear hag hd hdn
                  go_simp
                  exact ⟨_, rfl, rfl, hJ.add' 3 (by decide), SN.quiet 3 (by decide) (by decide) (by decide) (World.grownBy.refl _ _)⟩
                · refine RStepJ.of rfl fun T W Ls hag hni hJ hdn hd => ?_
                  have d74 : T.getD 74 undef = _ := hd ⟨3, .data⟩ (by simp) rfl _ rfl
                  clear hag hd hdn
                  go_simp
                  exact ⟨_, rfl, rfl, hJ.add' 4 (by decide), SN.quiet 4 (by decide) (by decide) (by decide) (World.grownBy.refl _ _)⟩
                · refine RStepJ.of rfl fun T W Ls hag hni hJ hdn hd => ?_
                  have d75 : T.getD 75 undef = _ := hd ⟨4, .data⟩ (by simp) rfl _ rfl
                  have fct0 := KC0.out W (hJ.fresh 5 (by decide) hni)
                  clear hag hd hdn
                  go_simp
                  exact ⟨_, rfl, rfl, hJ.add' 5 (by decide), SN.quiet 5 (by decide) (by decide) (by decide) (World.grownBy.refl _ _)⟩
                · refine RStepJ.of rfl fun T W Ls hag hni hJ hdn hd => ?_
                  have hw := hJ.fresh 6 (by decide) hni
                  obtain ⟨i0, hi0, hz0, hz1, hz2⟩ := info_parts infoPL
                  refine wp_one_of 66 (.const (.slice none 0 0)) rfl 77 i0 _ 1 Try.underlying66 hi0 hz0 hz1 (by decide) (by decide) (.slice none 0 0) rfl rfl ?_
                  exact ⟨_, rfl, ⟨W.heap.size, rfl, hw.touch.size, heap_alloc_new W _⟩, hJ.grow 6 (by decide) hni (hw.grow (World.grownBy_alloc W _ _)) (fun h => absurd h (by decide)), SN.quiet 6 (by decide) (by decide) (by decide) (World.grownBy_alloc W _ _)⟩
                · refine RStepJ.of rfl fun T W Ls hag hni hJ hdn hd => ?_
                  have d76 : T.getD 76 undef = _ := hd ⟨5, .data⟩ (by simp) rfl _ rfl
                  have x77 := hd ⟨6, .data⟩ (by simp) rfl _ rfl
                  have hw := hJ.fresh 7 (by decide) hni
                  obtain ⟨x, (dx : T.getD 77 undef = _), hx1, hx2⟩ := x77
                  obtain ⟨i0, hi0, hz0, hz1, hz2⟩ := info_parts infoPL
                  refine wp_push_of (.tmp 76) (.tmp 77) 66 rfl 77 i0 _ 1 24 Try.underlying66 hi0 hz0 hz1 hz2 rfl (by decide) l0 k vs0 d76 _ hw.t0 ⟨x, 0, none⟩ 1 1 [.slice none 0 0] dx rfl (World.news_of_block hx2) (fun u hu => by rw [List.mem_singleton.1 hu]; rfl) (by simp only [maxLen]; omega) (by omega) ?_
                  intro v' w' hnew hgr hold
                  refine ⟨_, rfl, hnew.owner (fun y _ hy => hy.imp id (fun h => Nat.le_trans hw.touch.size h)), hJ.grow 7 (by decide) hni (hw.push0 (by decide) hgr hold) (fun h => absurd h (by decide)), ?_⟩
                  unfold SN; rw [if_pos rfl]; exact hgr
                · refine RStepJ.of rfl fun T W Ls hag hni hJ hdn hd => ?_
                  have e4 : T.getD 4 undef = _ := (agree_at hag 4 (by kernel_rfl)).trans rfl
                  clear hag hd hdn
                  go_simp
                  exact ⟨_, rfl, rfl, hJ.add' 8 (by decide), SN.quiet 8 (by decide) (by decide) (by decide) (World.grownBy.refl _ _)⟩
                · refine RStepJ.of rfl fun T W Ls hag hni hJ hdn hd => ?_
                  have d79 : T.getD 79 undef = _ := hd ⟨8, .data⟩ (by simp) rfl _ rfl
                  clear hag hd hdn
                  go_simp
                  exact ⟨_, rfl, rfl, hJ.add' 9 (by decide), SN.quiet 9 (by decide) (by decide) (by decide) (World.grownBy.refl _ _)⟩
                · refine RStepJ.of rfl fun T W Ls hag hni hJ hdn hd => ?_
                  have d80 : T.getD 80 undef = _ := hd ⟨9, .data⟩ (by simp) rfl _ rfl
                  clear hag hd hdn
                  go_simp
                  exact ⟨_, rfl, rfl, hJ.add' 10 (by decide), SN.quiet 10 (by decide) (by decide) (by decide) (World.grownBy.refl _ _)⟩
                · refine RStepJ.of rfl fun T W Ls hag hni hJ hdn hd => ?_
                  have d81 : T.getD 81 undef = _ := hd ⟨10, .data⟩ (by simp) rfl _ rfl
                  have fct0 := KC1.out W (hJ.fresh 11 (by decide) hni)
                  clear hag hd hdn
                  go_simp
                  exact ⟨_, rfl, rfl, hJ.add' 11 (by decide), SN.quiet 11 (by decide) (by decide) (by decide) (World.grownBy.refl _ _)⟩
                · refine RStepJ.of rfl fun T W Ls hag hni hJ hdn hd => ?_
                  have hw := hJ.fresh 12 (by decide) hni
                  obtain ⟨i0, hi0, hz0, hz1, hz2⟩ := info_parts infoSL
                  refine wp_one_of 65 (.const (.slice none 0 0)) rfl 69 i0 _ 1 Try.underlying65 hi0 hz0 hz1 (by decide) (by decide) (.slice none 0 0) rfl rfl ?_
                  exact ⟨_, rfl, ⟨W.heap.size, rfl, hw.touch.size, heap_alloc_new W _⟩, hJ.grow 12 (by decide) hni (hw.grow (World.grownBy_alloc W _ _)) (fun h => absurd h (by decide)), SN.quiet 12 (by decide) (by decide) (by decide) (World.grownBy_alloc W _ _)⟩
                · refine RStepJ.of rfl fun T W Ls hag hni hJ hdn hd => ?_
                  have d82 : T.getD 82 undef = _ := hd ⟨11, .data⟩ (by simp) rfl _ rfl
                  have x83 := hd ⟨12, .data⟩ (by simp) rfl _ rfl
                  have hw := hJ.fresh 13 (by decide) hni
                  obtain ⟨x, (dx : T.getD 83 undef = _), hx1, hx2⟩ := x83
                  obtain ⟨i0, hi0, hz0, hz1, hz2⟩ := info_parts infoSL
                  refine wp_push_of (.tmp 82) (.tmp 83) 65 rfl 69 i0 _ 1 24 Try.underlying65 hi0 hz0 hz1 hz2 rfl (by decide) l1 k vs1 d82 _ hw.t1 ⟨x, 0, none⟩ 1 1 [.slice none 0 0] dx rfl (World.news_of_block hx2) (fun u hu => by rw [List.mem_singleton.1 hu]; rfl) (by simp only [maxLen]; omega) (by omega) ?_
                  intro v' w' hnew hgr hold
                  refine ⟨_, rfl, hnew.owner (fun y _ hy => hy.imp id (fun h => Nat.le_trans hw.touch.size h)), hJ.grow 13 (by decide) hni (hw.push1 (by decide) hgr hold) (fun _ => hdn ⟨12, .data⟩ (by simp) rfl), ?_⟩
                  unfold SN; rw [if_neg (by decide), if_pos rfl]; exact hgr
                · refine RStepJ.of rfl fun T W Ls hag hni hJ hdn hd => ?_
                  have d71 : T.getD 71 undef = _ := hd ⟨0, .data⟩ (by simp) rfl _ rfl
                  clear hag hd hdn
                  go_simp
                  exact ⟨_, rfl, rfl, hJ.add' 14 (by decide), SN.quiet 14 (by decide) (by decide) (by decide) (World.grownBy.refl _ _)⟩
                · refine RStepJ.of rfl fun T W Ls hag hni hJ hdn hd => ?_
                  have d85 : T.getD 85 undef = _ := hd ⟨14, .data⟩ (by simp) rfl _ rfl
                  clear hag hd hdn
                  go_simp
                  exact ⟨_, rfl, rfl, hJ.add' 15 (by decide), SN.quiet 15 (by decide) (by decide) (by decide) (World.grownBy.refl _ _)⟩
                · refine RStepJ.of rfl fun T W Ls hag hni hJ hdn hd => ?_
                  have d86 : T.getD 86 undef = _ := hd ⟨15, .data⟩ (by simp) rfl _ rfl
                  have x78 := hd ⟨7, .data⟩ (by simp) rfl _ rfl
                  have hw := hJ.fresh 16 (by decide) hni
                  have x78' : RowAt W (fun q => O3 q = .tab 2 ∨ w3.heap.size ≤ q) 77 1 (T.getD 78 undef) (k + 1) (vs0 ++ [.slice none 0 0]) := x78
                  obtain ⟨A9, c9, e78, _, _⟩ := x78'.val
                  rw [e78] at x78'
                  have cc : W.cell? ⟨B, 2, none⟩ = some l0 := KC0.out W hw
                  have cf : W.frozen? ⟨B, 2, none⟩ = false := KCF.out W hw
                  have hdeps := And.intro (hdn ⟨5, .phase⟩ (by simp) rfl) (And.intro (hdn ⟨6, .phase⟩ (by simp) rfl) (And.intro (hdn ⟨7, .data⟩ (by simp) rfl) (And.intro (hdn ⟨11, .phase⟩ (by simp) rfl) (hdn ⟨13, .phase⟩ (by simp) rfl))))
                  have HJ2 : Hid (JN15 w3 O3 B k l0 l1 vs0 vs1 (fun j => decide (16 = j) || Ls j) (W.setCell ⟨B, 2, none⟩ (.slice A9 (k + 1) c9))) := hJ.store hni hdeps hw x78' ⟨_, _, rfl⟩
                  have HS2 : Hid (SN 7 13 16 B l0 l1 16 W (W.setCell ⟨B, 2, none⟩ (.slice A9 (k + 1) c9))) := by
                    show SN _ _ _ _ _ _ _ _ _; unfold SN; rw [if_neg (by decide), if_neg (by decide), if_pos rfl]; exact (Touch.refl (fun q => q = B) W).setCell (p := ⟨B, 2, none⟩) rfl _
                  rw [Array.getD_eq_getD_getElem?] at e78
                  clear hag hd hdn x78 x78' hdeps
                  go_simp
                  exact ⟨trivial, HJ2.out, HS2.out⟩
                · refine RStepJ.of rfl fun T W Ls hag hni hJ hdn hd => ?_
                  have d72 : T.getD 72 undef = _ := hd ⟨1, .data⟩ (by simp) rfl _ rfl
                  clear hag hd hdn
                  go_simp
                  exact ⟨_, rfl, rfl, hJ.add' 17 (by decide), SN.quiet 17 (by decide) (by decide) (by decide) (World.grownBy.refl _ _)⟩
                · refine RStepJ.of rfl fun T W Ls hag hni hJ hdn hd => ?_
                  have d87 : T.getD 87 undef = _ := hd ⟨17, .data⟩ (by simp) rfl _ rfl
                  clear hag hd hdn
                  go_simp
                  exact ⟨_, rfl, rfl, hJ.add' 18 (by decide), SN.quiet 18 (by decide) (by decide) (by decide) (World.grownBy.refl _ _)⟩
                · refine RLastJ.of rfl fun T W Ls hag hall hni hJ hd => ?_
                  have d88 : T.getD 88 undef = _ := hd 18 _ (by simp) rfl
                  have x84 := hd 13 _ (by simp) rfl
                  obtain ⟨W3, v9, hj3, hrow3, ⟨A9, c9, rfl⟩, rfl⟩ := hJ.done (hall 16 (by decide))
                  have hv1' : RowAt (W3.setCell ⟨B, 2, none⟩ (.slice A9 (k + 1) c9)) (fun q => O3 q = .tab 3 ∨ w3.heap.size ≤ q) 69 1 (T.getD 84 undef) (k + 1) (vs1 ++ [.slice none 0 0]) := hd 13 _ (by simp) rfl
                  obtain ⟨A8, c8, e84, hx9, hy9⟩ := hv1'.val
                  clear hx9 hy9
                  rw [e84] at hv1'
                  have HFIN := Lib.hid (KEND.out W3 A9 c9 A8 c8 hj3 hrow3 hv1')
                  obtain ⟨f, hf, hT⟩ := agree_fn hag
                  have h84 := (hf 84).trans e84
                  have h88 := (hf 88).trans d88
                  have cc : (W3.setCell ⟨B, 2, none⟩ (.slice A9 (k + 1) c9)).cell? ⟨B, 3, none⟩ = some l1 := HFIN.out.1
                  have cf : (W3.setCell ⟨B, 2, none⟩ (.slice A9 (k + 1) c9)).frozen? ⟨B, 3, none⟩ = false := HFIN.out.2.1
                  clear hag hd d88 hf hv1' hj3 hrow3 hJ hall hni e84
                  rw [hT]
                  clear hT
                  simp only [List.filterMap_cons, List.filterMap_nil, List.foldl_cons, List.foldl_nil, List.setIfInBounds_toArray, List.set_cons_succ, List.set_cons_zero, h84, h88]
                  obtain ⟨O4, L4, hat4, hO4, hb4⟩ := HFIN.out.2.2
                  have HX4 := Lib.hid (And.intro hat4 (And.intro hO4 hb4))
                  clear hat4 hO4 hb4
                  go_wp2_with fail
                  go_roundw
                  case rel => exact ⟨k + 1, O4, L4, by go_num, by omega, HX4.out.1, HX4.out.2.1, HX4.out.2.2, HG2⟩
                  case measure => simp [intOf]; omega
      · obtain rfl : k = R := by omega
        have HAT := Lib.hid hat
        have HO := Lib.hid hO
        have HBL := Lib.hid hb
        have hyes : mayV zs = true := by
          unfold mayV
          simp only [Bool.and_eq_true, decide_eq_true_eq, Bool.not_eq_true', List.any_eq_false]
          refine ⟨by rw [HR.out]; omega, by rw [HR.out]; omega, fun z hz => ?_⟩
          obtain ⟨i, hi⟩ := List.getElem?_of_mem hz
          have := HG.out i z (by rw [← HR.out]; exact (List.getElem?_eq_some_iff.1 hi).1) hi
          simp [this]
        have HYES := Lib.hid hyes
        clear hat hO hb hyes HG
        go_wp2
        go_ret2
        refine ⟨?_, by rw [← HBB.out]; exact HBL.out⟩
        unfold NewE
        rw [if_pos HYES.out]
        refine ⟨B, fun q => O q ≠ .none, rfl, ⟨O, L, ?_, fun q => Iff.rfl, fun q hq => (HO.out q hq).2⟩, fun q hq => by rw [← HBB.out]; exact (HO.out q hq).1⟩
        have h := HAT.out
        unfold Gz at h
        rw [List.take_of_length_le (by rw [HR.out]; omega)] at h
        exact h
  · have hno : mayV zs = false := by
      unfold mayV
      by_cases h1 : 0 < zs.length
      · have : ¬ zs.length ≤ 8 := by omega
        simp [this]
      · simp [h1]
    have HNO := Lib.hid hno
    clear hno hy hB0
    generalize zs.length = R at *
    by_cases h1 : R < 1
    · go_enter Try.func12, Try.ntmps12
      go_wp2
      go_ret2
      exact ⟨by unfold NewE; rw [HNO.out]; rfl, Below.refl _ _⟩
    · have h2 : 8 < R := by omega
      go_enter Try.func12, Try.ntmps12
      go_wp2
      go_ret2
      exact ⟨by unfold NewE; rw [HNO.out]; rfl, Below.refl _ _⟩
end Go.Proofs.Ytocmjbfbjiinhaa

/- Contract: alike. -/
namespace Go.Proofs.Ytocmjbfbjiinhaa
open Go.ChangeShapes Go.WideShapes Go.ChangeAt Go.RowKit
set_option linter.unusedVariables false
/-- A row of texts as the reference has it. -/
theorem RAt.str {W : World} {O : Nat → RRole} {hh : Nat} {L : Nat → Value} {G : Nat → RTab} {left : Int} (h : RAt W O hh L G left) {t : Nat} (ht : t = 1 ∨ t = 3) {X : List (List (List Int))} (hX : G t = X.map (·.map strE)) {r : Nat} {row : List (List Int)} (hr : X[r]? = some row) :
    ∃ g cap A c, L t = .slice (some ⟨g, 0, none⟩) X.length cap ∧ W.cell? ⟨g, r, none⟩ = some (.slice A row.length c) ∧ ∀ i b, row[i]? = some b → ∃ a, A = some a ∧ W.cell? (a.add i) = some (.string (strOfNums b)) := by
  have ht4 : t < 4 := by omega
  obtain ⟨g, cap, u, e1, _, _, hc, _, hrow⟩ := h.row ht4 (r := r) (row := row.map strE) (by rw [hX, List.getElem?_map, hr]; rfl)
  rw [hX, List.length_map] at e1
  have hrow2 : RowAt W (fun k => O k = .row t r) 9 1 u row.length (sv row) := by
    rw [← flat_str, show row.length = (row.map strE).length by simp]
    rcases ht with rfl | rfl <;> exact hrow
  obtain ⟨A, c, rfl, _, _⟩ := hrow2.val
  refine ⟨g, cap, A, c, e1, hc, fun i b hb => ?_⟩
  have hlt := (List.getElem?_eq_some_iff.1 hb).1
  obtain ⟨g2, c2, e2, _, _, _, _, _, _⟩ := hrow2.pos (by omega)
  injection e2 with e2 _ e3
  subst e2; subst e3
  refine ⟨_, rfl, ?_⟩
  rw [add_at]
  exact hrow2.one (by unfold sv; rw [List.getElem?_map, hb]; rfl)
theorem DR.trace_no {w0 W : World} {P : Nat → Prop} {q hh : Nat} {m m2 : DM} (h : DR w0 W P q m hh m2) (r : Int) (hr : i64 r) (hb : hasR m r = false) :
    Calls Try.prog 29 #[.pointer (some ⟨q, 0, none⟩), .int .i64 r] W fun e w' => e = .returned (.slice none 0 0) ∧ W = w' := by
  obtain ⟨FR, h1, _⟩ := h.ex
  obtain ⟨F, ⟨O, L, g1, _⟩, _⟩ := h1.dev
  exact Go.Proofs.Ytocmjbfbjiinhaa.trace_no g1 r hr hb
def VA1 (q hh g1 c1 R : Nat) (i : Nat) (v : Value) (w : World) : Prop :=
  match i with
  | 0 => v = .pointer (some ⟨q, 0, none⟩)
  | 1 | 6 => v = .int .i64 R
  | 2 | 3 => v = .pointer (some ⟨hh, 0, none⟩)
  | 4 => v = .pointer (some ⟨hh, 1, none⟩)
  | 5 => v = .slice (some ⟨g1, 0, none⟩) R c1
  | _ => True
theorem VA1.on {q hh g1 c1 R j : Nat} {v : Value} {w w' : World} (h : VA1 q hh g1 c1 R j v w) : VA1 q hh g1 c1 R j v w' := by
  unfold VA1 at *; split <;> first | exact h | trivial
set_option maxRecDepth 100000 in
set_option maxHeartbeats 6400000 in
theorem alike_any {w0 W : World} {P : Nat → Prop} {q hh : Nat} {m : DM} (h : DR w0 W P q m hh m) (hmax : m.done.length ≤ 1000) :
    Calls Try.prog 28 #[.pointer (some ⟨q, 0, none⟩), .pointer (some ⟨hh, 0, none⟩)] W fun e w' => e = .returned (.bool true) ∧ Below W.heap.size W w' := by
  obtain ⟨FR, hds, ⟨O, L, hat, hF, hFl⟩, _, _⟩ := h.ex
  have hok := h.ok
  have few := hok.few
  have hpos := hok.pos
  have hX1 : (refOf m).G 1 = m.now.map (·.map strE) := rfl
  have hX3 : (refOf m).G 3 = ((List.range m.now.length).map (traceL m)).map (·.map strE) := rfl
  obtain ⟨row0, hrow0⟩ : ∃ x, m.now[0]? = some x := ⟨_, List.getElem?_eq_getElem hpos⟩
  obtain ⟨g1, c1, _, _, hL1, _, _⟩ := hat.str (Or.inl rfl) hX1 hrow0
  obtain ⟨g3, c3, _, _, hL3, _, _⟩ := hat.str (Or.inr rfl) hX3 (range_map_at (traceL m) hpos)
  rw [List.length_map, List.length_range] at hL3
  have HC1 : Hid (∀ W', Below W.heap.size W W' → W'.cell? ⟨hh, 1, none⟩ = some (.slice (some ⟨g1, 0, none⟩) m.now.length c1)) := fun W' hb => by rw [← hL1]; exact keepC hb (hat.cell 1 (by omega))
  have HC3 : Hid (∀ W', Below W.heap.size W W' → W'.cell? ⟨hh, 3, none⟩ = some (.slice (some ⟨g3, 0, none⟩) m.now.length c3)) := fun W' hb => by rw [← hL3]; exact keepC hb (hat.cell 3 (by omega))
  have HSEEN : Hid (∀ r row, m.now[r]? = some row → ∃ A c, ∀ W', Below W.heap.size W W' → W'.cell? ⟨g1, r, none⟩ = some (.slice A row.length c) ∧ ∀ i b, row[i]? = some b → ∃ a, A = some a ∧ W'.cell? (a.add i) = some (.string (strOfNums b))) := fun r row hr => by
    obtain ⟨g, cap, A, c, e1, h2, h3⟩ := hat.str (Or.inl rfl) hX1 hr
    rw [hL1] at e1; injection e1 with e1; injection e1 with e1; injection e1 with e1; subst e1
    exact ⟨A, c, fun W' hb => ⟨keepC hb h2, fun i b hi => by obtain ⟨a, e, h4⟩ := h3 i b hi; exact ⟨a, e, keepC hb h4⟩⟩⟩
  have HTRC : Hid (∀ r, r < m.now.length → ∃ A c, ∀ W', Below W.heap.size W W' → W'.cell? ⟨g3, r, none⟩ = some (.slice A (traceL m r).length c) ∧ ∀ i b, (traceL m r)[i]? = some b → ∃ a, A = some a ∧ W'.cell? (a.add i) = some (.string (strOfNums b))) := fun r hr => by
    obtain ⟨g, cap, A, c, e1, h2, h3⟩ := hat.str (Or.inr rfl) hX3 (range_map_at (traceL m) hr)
    rw [hL3, List.length_map, List.length_range] at e1; injection e1 with e1; injection e1 with e1; injection e1 with e1; subst e1
    exact ⟨A, c, fun W' hb => ⟨keepC hb h2, fun i b hi => by obtain ⟨a, e, h4⟩ := h3 i b hi; exact ⟨a, e, keepC hb h4⟩⟩⟩
  have HDR := Lib.hid (fun W' (hb : Below W.heap.size W W') => h.below hb (P' := P) (fun k hk => Or.inl hk))
  have HRG := Lib.hid (fun W' (hb : Below W.heap.size W W') => (HDR.out W' hb).regions)
  have HOK := Lib.hid hok
  clear h hds hat hF hFl hok hX1 hX3 hrow0 hL1 hL3
  generalize hR : m.now.length = R at *
  have HR := Lib.hid hR
  clear hR
  go_enter Try.func28, Try.ntmps28
  go_upto_region 1 with fail
  go_cut [20] (fun s wx => s = .bool false ∧ Below W.heap.size W wx)
  case first =>
    have grefl : ∀ W : World, W.grownBy W none := fun W => World.grownBy.refl W _
    refine wp_region_rg (VA1 q hh g1 c1 R) (Below W.heap.size W) (fun w w' => w.grownBy w' none) (by kernel_rfl) (by kernel_rfl) (fun j v w w' h hg => h.on) ((Below.refl _ _).drew) ?_
    simp only [RAll]
    refine ⟨?_, ?_, ?_, ?_, ?_, ?_, ?_, ?_⟩
    · refine RStep.of rfl fun T W hag hJ hd => ?_
      have e0 : T.getD 0 undef = _ := (agree_at hag 0 (by kernel_rfl)).trans rfl
      clear hag hd
      go_simp
      first | exact ⟨_, rfl, rfl⟩ | exact ⟨_, rfl, rfl, hJ, grefl _⟩
    · refine RStep.of rfl fun T W hag hJ hd => ?_
      have d13 : T.getD 13 undef = _ := hd ⟨0, .data⟩ (by simp) rfl _ rfl
      clear hag hd
      go_simp
      refine (HRG.out W hJ).mono ?_; rintro e w' ⟨rfl, rfl⟩
      exact ⟨_, rfl, rfl, hJ, grefl _⟩
    · refine RStep.of rfl fun T W hag hJ hd => ?_
      have e1 : T.getD 1 undef = _ := (agree_at hag 1 (by kernel_rfl)).trans rfl
      clear hag hd
      go_simp
      first | exact ⟨_, rfl, rfl⟩ | exact ⟨_, rfl, rfl, hJ, grefl _⟩
    · refine RStep.of rfl fun T W hag hJ hd => ?_
      have d15 : T.getD 15 undef = _ := hd ⟨2, .data⟩ (by simp) rfl _ rfl
      clear hag hd
      go_simp
      first | exact ⟨_, rfl, rfl⟩ | exact ⟨_, rfl, rfl, hJ, grefl _⟩
    · refine RStep.of rfl fun T W hag hJ hd => ?_
      have d16 : T.getD 16 undef = _ := hd ⟨3, .data⟩ (by simp) rfl _ rfl
      clear hag hd
      go_simp
      first | exact ⟨_, rfl, rfl⟩ | exact ⟨_, rfl, rfl, hJ, grefl _⟩
    · refine RStep.of rfl fun T W hag hJ hd => ?_
      have d17 : T.getD 17 undef = _ := hd ⟨4, .data⟩ (by simp) rfl _ rfl
      have fct0 := HC1.out W hJ
      clear hag hd
      go_simp
      first | exact ⟨_, rfl, rfl⟩ | exact ⟨_, rfl, rfl, hJ, grefl _⟩
    · refine RStep.of rfl fun T W hag hJ hd => ?_
      have d18 : T.getD 18 undef = _ := hd ⟨5, .data⟩ (by simp) rfl _ rfl
      clear hag hd
      go_simp
      first | exact ⟨_, rfl, rfl⟩ | exact ⟨_, rfl, rfl, hJ, grefl _⟩
    · refine RLast.of rfl fun T W hag hJ hd => ?_
      have d14 : T.getD 14 undef = _ := hd 1 _ (by simp) rfl
      have d19 : T.getD 19 undef = _ := hd 6 _ (by simp) rfl
      have d14 : T.getD 14 undef = _ := hd 1 _ (by simp) rfl
      have HJ := Lib.hid hJ
      obtain ⟨f, hf, hT⟩ := agree_fn hag
      have h14 := (hf 14).trans d14
      have h19 := (hf 19).trans d19
      clear hag hd d14 d19 hf hJ
      rw [hT]
      clear hT
      simp only [List.filterMap_cons, List.filterMap_nil, List.foldl_cons, List.foldl_nil, List.setIfInBounds_toArray, List.set_cons_succ, List.set_cons_zero, h14, h19]
      rename_i hJc hKc
      go_wp2_with fail
      refine hJc _ _ ?_
      repeat apply Exists.intro
      exact ⟨⟨rfl, HJ.out⟩, rfl⟩

  case rest =>
    obtain ⟨rfl, hbW⟩ := hcut
    go_wp2_with fail
    go_loopw [5] (fun i wr => ∃ k : Nat, i = .int .i64 k ∧ k ≤ R ∧ Below W.heap.size W wr) (fun i _ => R - (intOf i).toNat)
    case atStart => exact ⟨0, rfl, Nat.zero_le _, hbW⟩
    case round =>
      obtain ⟨k, rfl, hk, hb⟩ := hrel
      obtain ⟨w1, rfl⟩ : ∃ w1, w1 = wr := ⟨wr, rfl⟩
      have hc1 := HC1.out w1 hb
      have HB1 := Lib.hid hb
      clear hb hbW
      by_cases hlt : k < R
      · obtain ⟨row, hrow⟩ : ∃ x, m.now[k]? = some x := ⟨_, List.getElem?_eq_getElem (by rw [HR.out]; exact hlt)⟩
        have HTRA := Lib.hid ((HDR.out w1 HB1.out).trace k (by rw [HR.out]; exact hlt) (by omega))
        obtain ⟨A3, c3', h3⟩ := HTRC.out k hlt
        obtain ⟨A1, c1', h1⟩ := HSEEN.out k row hrow
        have H3 := Lib.hid h3
        have H1 := Lib.hid h1
        have HROW := Lib.hid hrow
        have hki : (k : Int) < R := by omega
        clear h3 h1 hrow
        go_wp2_with fail
        refine HTRA.out.mono ?_
        rintro e w2 ⟨⟨v, rfl, hv⟩, hb2⟩
        have HB2 := Lib.hid (keepB HB1.out hb2)
        obtain ⟨At, ct, rfl, _, _⟩ := hv.val
        have HV := Lib.hid hv
        have c3a := HC3.out w2 HB2.out
        have c3b := (H3.out w2 HB2.out).1
        obtain ⟨nt, hnt⟩ : ∃ n, n = (traceL m k).length := ⟨_, rfl⟩
        rw [← hnt] at c3b
        have hnt1000 : nt ≤ 1000 := by rw [hnt]; exact Nat.le_trans (tr_len m k) hmax
        have HNT := Lib.hid hnt
        rw [← hnt]
        clear hnt hv hb2 hc1 HTRA
        go_wp2_with fail
        clear c3a c3b
        go_loopw [7] (fun i wr => ∃ j : Nat, i = .int .i64 j ∧ j ≤ nt ∧ Below W.heap.size W wr ∧ TxtOwn wr w1.heap.size (.slice At (traceL m k).length ct) (traceL m k)) (fun i _ => nt - (intOf i).toNat)
        case atStart => exact ⟨0, rfl, Nat.zero_le _, HB2.out, HV.out⟩
        case round =>
          obtain ⟨j, rfl, hj, hb3, hv3⟩ := hrel
          obtain ⟨w3, rfl⟩ : ∃ w3, w3 = wr := ⟨wr, rfl⟩
          have HB3 := Lib.hid hb3
          by_cases hjn : j < nt
          · obtain ⟨t, ht⟩ : ∃ t, (traceL m k)[j]? = some t := ⟨_, List.getElem?_eq_getElem (by rw [← HNT.out]; exact hjn)⟩
            obtain ⟨gt, capt, u, e1, _, _, hcu, _, hur⟩ := hv3.row ht
            injection e1 with e1 e2 e3
            subst e1; subst e3
            obtain ⟨Au, cu, rfl, _, _, hyu⟩ := byt_own hur.1 rfl
            have cv1 : (convert 31 9 (.slice Au t.length cu)).run Try.prog w3 = .ok (.string (strOfNums t)) w3 := conv_any hyu rfl
            have cv2 : (convert 31 9 (.slice Au t.length cu)).run Try.prog w3.drew = .ok (.string (strOfNums t)) w3.drew := conv_any (hyu.drew 1) rfl
            have a1 := HC3.out w3 hb3
            obtain ⟨a2, a3⟩ := H3.out w3 hb3
            obtain ⟨ad, rfl, a4⟩ := a3 j t ht
            rw [← HNT.out] at a2
            have HV3 := Lib.hid hv3
            have hji : (j : Int) < nt := by omega
            clear hv3 hur hyu a3 ht e2 hb3
            generalize strOfNums t = st at *
            generalize t.length = tl at *
            go_upto_region 12 with fail
            have b1 : w3.drew.cell? ⟨hh, 3, none⟩ = _ := a1
            have b2 : w3.drew.cell? ⟨g3, k, none⟩ = _ := a2
            have b4 : w3.drew.cell? (ad.add j) = _ := a4
            have bu : w3.drew.cell? ⟨gt, j, none⟩ = _ := hcu
            go_still_tail 15, (by kernel_rfl)
            change wpList _ _ _ _ _ w3.drew
            have HBD : Hid (Below W.heap.size W w3.drew) := HB3.out.drew
            have HVD : Hid (TxtOwn w3.drew w1.heap.size (.slice (some ⟨gt, 0, none⟩) (traceL m k).length ct) (traceL m k)) := HV3.out
            clear a1 a2 a4 hcu cv1 cv2 b1 b2 b4 bu
            generalize w3.drew = w4 at *
            go_wp2_with fail
            go_roundw
            case rel => exact ⟨j + 1, by go_num, by omega, HBD.out, HVD.out⟩
            case measure => simp [intOf]; omega
          · obtain rfl : j = nt := by omega
            have d1 := HC1.out w3 hb3
            have d2 := (H1.out w3 hb3).1
            obtain ⟨n1, hn1⟩ : ∃ n, n = row.length := ⟨_, rfl⟩
            rw [← hn1] at d2
            have hn1000 : n1 ≤ 1000 := by rw [hn1]; exact (HOK.out.rows _ _ HROW.out).1
            have HN1 := Lib.hid hn1
            clear hn1 hb3 hv3
            go_wp2_with fail
            clear d1 d2
            go_loopw [8] (fun i wr => ∃ l : Nat, i = .int .i64 l ∧ l ≤ n1 ∧ Below W.heap.size W wr) (fun i _ => n1 - (intOf i).toNat)
            case atStart => exact ⟨0, rfl, Nat.zero_le _, HB3.out⟩
            case round =>
              obtain ⟨l, rfl, hl, hb4⟩ := hrel
              obtain ⟨w5, rfl⟩ : ∃ w5, w5 = wr := ⟨wr, rfl⟩
              have d1 := HC1.out w5 hb4
              obtain ⟨d2, d3⟩ := H1.out w5 hb4
              rw [← HN1.out] at d2
              have HB5 := Lib.hid hb4
              by_cases hln : l < n1
              · have HRD := Lib.hid ((HDR.out w5 hb4).read k l (by constructor <;> omega) (by have := (HOK.out.rows _ _ HROW.out).1; have := HN1.out; constructor <;> omega))
                have hli : (l : Int) < n1 := by omega
                have HL1000 : Hid (n1 ≤ 1000) := by have := (HOK.out.rows _ _ HROW.out).1; have := HN1.out; unfold Hid; omega
                clear hb4 d3
                go_wp2_with fail
                refine HRD.out.mono ?_
                rintro e w6 ⟨⟨v6, rfl, hans⟩, hb6⟩
                have HB6 := Lib.hid (keepB HB5.out hb6)
                have hhas : hasB m (k : Int) (l : Int) = true := by
                  unfold hasB hasR
                  rw [Int.toNat_natCast, rowLen_of HROW.out]
                  have := HN1.out
                  have := HR.out
                  simp
                  omega
                rcases hans with ⟨hf, _⟩ | ⟨_, q6, b, hbk, hbo, rfl, _, hq6⟩
                · rw [hhas] at hf; cases hf
                · rw [Int.toNat_natCast, Int.toNat_natCast, List.getD, HROW.out] at hbk
                  have hbk' : row[l]? = some b := hbk
                  have f1 := HC1.out w6 HB6.out
                  obtain ⟨f2, f3⟩ := H1.out w6 HB6.out
                  obtain ⟨ad, rfl, f4⟩ := f3 l b hbk'
                  rw [← HN1.out] at f2
                  have cv1 : (convert 31 9 (.slice (some ⟨q6, 0, none⟩) 64 64)).run Try.prog w6 = .ok (.string (strOfNums b)) w6 := conv_any (byt_blk hq6 (by simp)) hbo.1
                  have cv2 : (convert 31 9 (.slice (some ⟨q6, 0, none⟩) 64 64)).run Try.prog w6.drew = .ok (.string (strOfNums b)) w6.drew := conv_any ((byt_blk hq6 (by simp)).drew 1) hbo.1
                  clear hhas hbk hbk' hbo hq6 hb6 d1 d2 f3 HRD
                  generalize strOfNums b = st at *
                  go_upto_region 18 with fail
                  have b1 : w6.drew.cell? ⟨hh, 1, none⟩ = _ := f1
                  have b2 : w6.drew.cell? ⟨g1, k, none⟩ = _ := f2
                  have b4 : w6.drew.cell? (ad.add l) = _ := f4
                  go_still_tail 16, (by kernel_rfl)
                  change wpList _ _ _ _ _ w6.drew
                  have HBD : Hid (Below W.heap.size W w6.drew) := HB6.out.drew
                  clear f1 f2 f4 cv1 cv2 b1 b2 b4
                  generalize w6.drew = w7 at *
                  go_wp2_with fail
                  go_roundw
                  case rel => exact ⟨l + 1, by go_num, by omega, HBD.out⟩
                  case measure => simp [intOf]; omega
              · obtain rfl : l = n1 := by omega
                clear hb4 d3
                go_wp2_with fail
                go_roundw
                case rel => exact ⟨k + 1, by go_num, by omega, HB5.out⟩
                case measure => simp [intOf]; omega
      · obtain rfl : k = R := by omega
        have HRD := Lib.hid ((HDR.out w1 HB1.out).read k 0 (by constructor <;> omega) (by constructor <;> omega))
        have hno : hasB m (k : Int) 0 = false := by
          unfold hasB hasR
          have := HR.out
          simp
          omega
        have HNO := Lib.hid hno
        clear hno
        go_wp2_with fail
        refine HRD.out.mono ?_
        rintro e w2 ⟨⟨v, rfl, hans⟩, hb2⟩
        rcases hans with ⟨_, rfl⟩ | ⟨hf, _⟩
        · have HB2 := Lib.hid (keepB HB1.out hb2)
          have HTN := Lib.hid ((HDR.out w2 HB2.out).trace_no (-1) (by constructor <;> omega) (by unfold hasR; simp))
          clear hb2 hc1
          go_wp2_with fail
          refine HTN.out.mono ?_
          rintro e w3 ⟨rfl, rfl⟩
          go_wp2_with fail
          go_ret
          exact ⟨rfl, HB2.out⟩
        · rw [HNO.out] at hf; cases hf
end Go.Proofs.Ytocmjbfbjiinhaa

/- For DevAll's walk: what deeds leave alone; a copy; ints as an argument. -/
namespace Go.Proofs.Ytocmjbfbjiinhaa
open Go.ChangeShapes Go.WideShapes Go.ChangeAt Go.RowKit Go.Deep
set_option linter.unusedVariables false
theorem write_done (m : DM) (r i : Int) (bs : List Int) : (m.doWrite r i bs).done.length ≤ m.done.length + 1 := by
  unfold DM.doWrite DM.write; split
  · simp
  · omega
theorem barrier_done (m : DM) (r : Int) : (m.doBarrier r).done.length ≤ m.done.length + 1 := by
  unfold DM.doBarrier; split
  · show (m.done ++ [_]).length ≤ _; simp
  · omega
theorem bytF_of {w wx : World} {A : Option Addr} {bs : List Int} (h : Byt w A bs) (hb : Below w.heap.size w wx) {F : Nat → Prop} (hF : ∀ k, F k → w.heap.size ≤ k) : BytF wx F A bs := fun W' ht i x hx => by
  obtain ⟨a, e, hc⟩ := h i x hx
  have hlt := World.block_lt_of_cell? w _ hc
  refine ⟨a, e, ?_⟩
  rw [World.cell?_of_block (ht.block _ (Nat.lt_of_lt_of_le hlt hb.size) (fun hf => by have := hF _ hf; omega)), hb.cell hlt]
  exact hc
theorem txtsF_of {w wx : World} {A : Option Addr} {ks : List (List Int)} (h : Txts w A ks) (hb : Below w.heap.size w wx) {F : Nat → Prop} (hF : ∀ k, F k → w.heap.size ≤ k) : TxtsF wx F A ks := fun i bs hi => by
  obtain ⟨a, A', c, e, h1, h2, h3⟩ := h i bs hi
  refine ⟨a, A', c, e, fun W' ht => ⟨?_, bytF_of h2 hb hF W' ht⟩, h3⟩
  have hlt := World.block_lt_of_cell? w _ h1
  rw [World.cell?_of_block (ht.block _ (Nat.lt_of_lt_of_le hlt hb.size) (fun hf => by have := hF _ hf; omega)), hb.cell hlt]
  exact h1
theorem stop_neg (m : DM) {n : Int} (h : n < 0) : m.stop n = m.stop (-1) := by
  unfold DM.stop
  have h1 : decide (0 ≤ n) = false := decide_eq_false (by omega)
  have h2 : n.toNat = 0 := by omega
  rw [h1, h2]; rfl
theorem stopped_stop (m : DM) (n : Int) (hn : n = -1 ∨ 0 ≤ n) : stopped (m.stop n) = (n == 0) := by
  unfold stopped DM.stop
  rw [Bool.eq_iff_iff]
  simp
  omega
section
variable {w0 W : World} {P : Nat → Prop} {q hh : Nat} {m m2 : DM}
/-- A copy beside a device and the reference's: the elder one is among the rest from now on. -/
theorem DR.copy (h : DR w0 W P q m hh m2) (hmax : m.done.length ≤ 1000000) :
    Calls Try.prog 20 #[.pointer (some ⟨q, 0, none⟩)] W fun e w' => (∃ q' FC, e = .returned (.pointer (some ⟨q', 0, none⟩)) ∧ (∀ k, FC k → w0.heap.size ≤ k) ∧ (∀ k, P k → ¬ FC k) ∧ Dev w' FC q' m ∧ DR w0 w' (fun k => P k ∨ FC k) q m hh m2) ∧ Below W.heap.size W w' := by
  obtain ⟨FR, h1, h2, h3, h4⟩ := h.ex
  refine (h1.copy hmax).mono ?_
  rintro e w' ⟨⟨q', FC, rfl, hd, hge⟩, hb⟩
  have hsz := h.bel.size
  have hlt : ∀ k, FC k → k < w'.heap.size := by obtain ⟨O, L, _, _, x⟩ := hd; exact x
  exact ⟨⟨q', FC, rfl, fun k hk => by have := hge k hk; omega, fun k hk hf => by have := h.low k hk; have := hge k hf; omega, hd, h.below hb (fun k hk => hk.imp id (fun hf => ⟨hge k hf, hlt k hf⟩))⟩, hb⟩
/-- The copy takes the elder one's place. -/
theorem DR.turn {q' : Nat} {m' : DM} {FC : Nat → Prop} (h : DR w0 W (fun k => P k ∨ FC k) q m hh m2) (hd : Dev W FC q' m') (h1 : ∀ k, FC k → w0.heap.size ≤ k) (h2 : ∀ k, P k → ¬ FC k) : DR w0 W P q' m' hh m2 := by
  obtain ⟨FR, g1, g2, g3, g4⟩ := h.ex
  refine ⟨⟨FR, ⟨⟨FC, hd, h1, fun k hk hf => ?_⟩, fun k hk => ?_, g1.bel⟩, g2, g3, fun k hk => g4 k (Or.inl hk)⟩, h.both⟩
  · rcases hk with hk | hk
    · exact h2 k hk hf
    · exact g4 k (Or.inr hf) hk
  · rcases hk with hk | hk
    · exact g1.low k (Or.inl (Or.inl hk))
    · exact g1.low k (Or.inr hk)
theorem Dev.same {W' : World} {FC : Nat → Prop} {q' : Nat} {m' : DM} (hd : Dev W FC q' m') (hs : Same FC W W') : Dev W' FC q' m' := by
  have ht : Touch (fun k => ¬ FC k) W W := Touch.refl _ _
  obtain ⟨O, L, g1, g2, g3⟩ := hd
  exact ⟨O, L, g1.keep fun k hk ho => hs.blk k ((g2 k).2 ho), g2, fun k hk => Nat.lt_of_lt_of_le (g3 k hk) hs.size⟩
end
section
variable {H : Type} {enc : TypeId × Value → H} {w : World} {base : Nat} {spare : Nat → Bool} {held : Bool}
theorem cells3n : Try.prog.cellsOf 3 = 1 := by kernel_rfl
theorem open_nts {fuel : Nat} {cs : List Value} {x : DataW H × List MemPlace} (h : DataW.trod enc Try.prog w base spare held fuel 22 cs = some x) :
    ∃ (A : Option Addr) (bs : List Int) (d : Nat), cs = [.slice A bs.length d] ∧ bs.length ≤ d ∧ d ≤ 9223372036854775807 ∧ Nts w A bs ∧ AllI bs := by
  rcases open_ints Try.underlying22 Try.underlying3 cells3n h with ⟨rfl, _⟩ | ⟨a, len, cap, zs, rfl, _, hl, hm, hz, _, hcell, hwf⟩
  · exact ⟨none, [], 0, rfl, Nat.le_refl _, by omega, (fun i s hi => by cases hi), (fun s hs => by cases hs)⟩
  · have hzl : len ≤ zs.length := by rw [hz]; split <;> omega
    have e : (zs.take len).length = len := List.length_take_of_le hzl
    refine ⟨some a, zs.take len, cap, by rw [e], by rw [e]; exact hl, by simp only [maxLen] at hm; omega, fun i s hi => ⟨a, rfl, ?_⟩, fun s hs => ?_⟩
    · rw [List.getElem?_take] at hi
      split at hi
      · have hlt : i < zs.length := (List.getElem?_eq_some_iff.1 hi).1
        rw [hcell i hlt, List.getD, hi]; rfl
      · cases hi
    · have := bounds_i64 (hwf s (List.mem_of_mem_take hs)); constructor <;> omega
theorem open_deed2 {fuel : Nat} {cs : List Value} {x : DataW H × List MemPlace} (h : DataW.trod enc Try.prog w base spare held fuel 34 cs = some x) :
    ∃ d : Dd, cs = [.int .i64 d.k, .int .i64 d.r, .int .i64 d.i, .int .i64 d.n, .slice d.A d.b.length d.c, .slice d.K d.ks.length d.kc] ∧ (DdOk d ∧ d.n ≤ 9223372036854775807) ∧ Byt w d.A d.b ∧ Txts w d.K d.ks := by
  obtain ⟨xs, n, _, hx, hlen, hxl, hf⟩ := DataW.trod_struct Try.underlying34 h
  rw [cells_deed] at hlen
  match cs, hlen with
  | [c0, c1, c2, c3, c4, c5], _ =>
    have e0 : DataW.trod enc Try.prog w base spare held n 3 (([c0, c1, c2, c3, c4, c5].drop 0).take (Try.prog.cellsOf 3)) = xs[0]? := hf 0 _ rfl
    have e1 : DataW.trod enc Try.prog w base spare held n 3 (([c0, c1, c2, c3, c4, c5].drop 1).take (Try.prog.cellsOf 3)) = xs[1]? := hf 1 _ rfl
    have e2 : DataW.trod enc Try.prog w base spare held n 3 (([c0, c1, c2, c3, c4, c5].drop 2).take (Try.prog.cellsOf 3)) = xs[2]? := hf 2 _ rfl
    have e3 : DataW.trod enc Try.prog w base spare held n 3 (([c0, c1, c2, c3, c4, c5].drop 3).take (Try.prog.cellsOf 3)) = xs[3]? := hf 3 _ rfl
    have e4 : DataW.trod enc Try.prog w base spare held n 31 (([c0, c1, c2, c3, c4, c5].drop 4).take (Try.prog.cellsOf 31)) = xs[4]? := hf 4 _ rfl
    have e5 : DataW.trod enc Try.prog w base spare held n 32 (([c0, c1, c2, c3, c4, c5].drop 5).take (Try.prog.cellsOf 32)) = xs[5]? := hf 5 _ rfl
    rw [cells_int] at e0 e1 e2 e3
    rw [cells_bytes] at e4
    rw [cells_texts] at e5
    have hs : ∀ i, i < 6 → ∃ y, xs[i]? = some y := fun i hi => ⟨_, List.getElem?_eq_getElem (by rw [hxl]; exact hi)⟩
    obtain ⟨y0, h0⟩ := hs 0 (by omega)
    obtain ⟨y1, h1⟩ := hs 1 (by omega)
    obtain ⟨y2, h2⟩ := hs 2 (by omega)
    obtain ⟨y3, h3⟩ := hs 3 (by omega)
    obtain ⟨y4, h4⟩ := hs 4 (by omega)
    obtain ⟨y5, h5⟩ := hs 5 (by omega)
    rw [h0] at e0
    rw [h1] at e1
    rw [h2] at e2
    rw [h3] at e3
    rw [h4] at e4
    rw [h5] at e5
    obtain ⟨k, ek, _, wk⟩ := DataW.trod_int Try.underlying3 e0
    obtain ⟨r, er, _, wr⟩ := DataW.trod_int Try.underlying3 e1
    obtain ⟨i, ei, _, wi⟩ := DataW.trod_int Try.underlying3 e2
    obtain ⟨m, em, _, wm⟩ := DataW.trod_int Try.underlying3 e3
    obtain ⟨A, b, c, eb, b1, b2, b3, b4⟩ := open_byt e4
    obtain ⟨K, ks, kc, es, k1, k2, k3⟩ := open_txts e5
    injection ek with ek
    injection er with er
    injection ei with ei
    injection em with em
    injection eb with eb
    injection es with es
    exact ⟨⟨k, r, i, m, A, b, c, K, ks, kc⟩, by rw [ek, er, ei, em, eb, es], ⟨⟨wf_i64 wk, wf_i64 wr, wf_i64 wi, wf_i64 wm, b4, b1, b2, k1, k2⟩, by have := bounds_i64 wm; show m ≤ _; omega⟩, b3, k3⟩
theorem open_deeds2 {fuel : Nat} {cs : List Value} {x : DataW H × List MemPlace} (h : DataW.trod enc Try.prog w base spare held fuel 23 cs = some x) :
    ∃ (A : Option Addr) (l : List Dd) (d : Nat), cs = [.slice A l.length d] ∧ l.length ≤ d ∧ d ≤ 9223372036854775807 ∧ Deeds w A l ∧ DdsOk l ∧ ∀ d ∈ l, d.n ≤ 9223372036854775807 := by
  rcases open_slice Try.underlying23 h with ⟨rfl, _⟩ | ⟨a, len, cap, m, n, D, Pl, rfl, _, hl, hm, hmm, _, hi⟩
  · exact ⟨none, [], 0, rfl, Nat.le_refl _, by omega, (fun i s hi => by cases hi), (fun s hs => by cases hs), (fun s hs => by cases hs)⟩
  · have hml : len ≤ m := by rw [hmm]; split <;> omega
    obtain ⟨l, h1, h2⟩ := list_of (p := fun i d => DdAt w (a.add (i * 6)) d ∧ (DdOk d ∧ d.n ≤ 9223372036854775807)) len (fun k hk => by
      obtain ⟨cs', hc, ht⟩ := hi k (by omega)
      rw [cells_deed] at hc
      obtain ⟨d, rfl, hd, hb, hks⟩ := open_deed2 ht
      obtain ⟨_, _, hat⟩ := World.cells?_some hc
      have at_ : ∀ j u, j < 6 → [Value.int .i64 d.k, .int .i64 d.r, .int .i64 d.i, .int .i64 d.n, .slice d.A d.b.length d.c, .slice d.K d.ks.length d.kc][j]? = some u → w.cell? ((a.add (k * 6)).add j) = some u := fun j u hj hu => by rw [hat j hj, hu]
      have c0 := at_ 0 _ (by omega) rfl
      have c1 := at_ 1 _ (by omega) rfl
      have c2 := at_ 2 _ (by omega) rfl
      have c3 := at_ 3 _ (by omega) rfl
      have c4 := at_ 4 _ (by omega) rfl
      have c5 := at_ 5 _ (by omega) rfl
      rw [add_pos' _ _ (by omega)] at c1 c2 c3 c4 c5
      exact ⟨d, ⟨c0, c1, c2, c3, c4, c5, hb, hks⟩, hd⟩)
    refine ⟨some a, l, cap, by rw [h1], by omega, by simp only [maxLen] at hm; omega, fun i d hid => ⟨a, rfl, (h2 i d hid).1⟩, fun d hd => ?_, fun d hd => ?_⟩
    · obtain ⟨i, hi⟩ := List.mem_iff_getElem?.1 hd
      exact (h2 i d hi).2.1
    · obtain ⟨i, hi⟩ := List.mem_iff_getElem?.1 hd
      exact (h2 i d hi).2.2
end
/-- What a region does that tells the device and the reference the same thing, in any order: a and b are the two calls. -/
def JD (w0 wc : World) (P : Nat → Prop) (q hh : Nat) (m m' : DM) (a b : Nat) (Ls : Nat → Bool) (W : World) : Prop := DR w0 W P q (if Ls a then m' else m) hh (if Ls b then m' else m) ∧ Same P wc W
section
variable {w0 wc W W' : World} {P : Nat → Prop} {q hh : Nat} {m m' : DM} {a b : Nat} {Ls : Nat → Bool}
theorem JD.add' (h : JD w0 wc P q hh m m' a b Ls W) (i : Nat) (ha : i ≠ a) (hb : i ≠ b) : JD w0 wc P q hh m m' a b (fun j => decide (i = j) || Ls j) W := by
  unfold JD at *
  simpa [ha, hb] using h
theorem JD.fst (h : JD w0 wc P q hh m m' a b Ls W) (hn : Ls a = false) : DR w0 W P q m hh (if Ls b then m' else m) ∧ Same P wc W := by
  unfold JD at h; rw [hn] at h; exact h
theorem JD.snd (h : JD w0 wc P q hh m m' a b Ls W) (hn : Ls b = false) : DR w0 W P q (if Ls a then m' else m) hh m ∧ Same P wc W := by
  unfold JD at h; rw [hn] at h; exact h
theorem JD.did1 (h : DR w0 W' P q m' hh (if Ls b then m' else m)) (hs : Same P wc W') (hab : a ≠ b) : JD w0 wc P q hh m m' a b (fun j => decide (a = j) || Ls j) W' := by
  unfold JD
  simpa [hab] using ⟨h, hs⟩
theorem JD.did2 (h : DR w0 W' P q (if Ls a then m' else m) hh m') (hs : Same P wc W') (hab : b ≠ a) : JD w0 wc P q hh m m' a b (fun j => decide (b = j) || Ls j) W' := by
  unfold JD
  simpa [hab] using ⟨h, hs⟩
theorem JD.both (h : JD w0 wc P q hh m m' a b Ls W) (ha : Ls a = true) (hb : Ls b = true) : DR w0 W P q m' hh m' ∧ Same P wc W := by
  unfold JD at h; rw [ha, hb] at h; exact h
theorem JD.start (h : DR w0 W P q m hh m) : JD w0 W P q hh m m' a b (fun _ => false) W.drew := 
  ⟨h.below (Below.refl _ _).drew (fun k hk => Or.inl hk), ⟨fun k _ => rfl, Nat.le_refl _⟩⟩
theorem blk_add {w : World} {g : Nat} {C : Array Value} {t : TypeId} {fr : Nat × Nat} (h : w.heap[g]? = some (.cells C t fr)) (i : Nat) : w.cell? ⟨g, i, none⟩ = C[i]? := blk_cell h i
end
/-- A deed's copy fills a block. -/
def DdBlk (W : World) (g : Nat) (d : Dd) : Prop := W.heap[g]? = some (.cells #[.int .i64 d.k, .int .i64 d.r, .int .i64 d.i, .int .i64 d.n, .slice d.A d.b.length d.c, .slice d.K d.ks.length d.kc] 34 (0, 0))
section
variable {W W' wc w0 : World} {g : Nat} {d : Dd} {P : Nat → Prop}
theorem DdBlk.same (h : DdBlk W g d) (hs : Same P W W') (hp : P g) : DdBlk W' g d := (hs.blk g hp).trans h
theorem DdBlk.keep (h : DdBlk W g d) (hb : Below W.heap.size W W') : DdBlk W' g d := (hb.block g (room_lt h)).trans h
theorem DdBlk.c0 (h : DdBlk W g d) : W.cell? ⟨g, 0, none⟩ = some (.int .i64 d.k) := blk_cell h 0
theorem DdBlk.c1 (h : DdBlk W g d) : W.cell? ⟨g, 1, none⟩ = some (.int .i64 d.r) := blk_cell h 1
theorem DdBlk.c2 (h : DdBlk W g d) : W.cell? ⟨g, 2, none⟩ = some (.int .i64 d.i) := blk_cell h 2
theorem DdBlk.c3 (h : DdBlk W g d) : W.cell? ⟨g, 3, none⟩ = some (.int .i64 d.n) := blk_cell h 3
theorem DdBlk.c4 (h : DdBlk W g d) : W.cell? ⟨g, 4, none⟩ = some (.slice d.A d.b.length d.c) := blk_cell h 4
theorem DdBlk.c5 (h : DdBlk W g d) : W.cell? ⟨g, 5, none⟩ = some (.slice d.K d.ks.length d.kc) := blk_cell h 5
theorem kind_of (k : Int) : ∃ t kk : Int, Int.tmod k 11 = t ∧ -11 < t ∧ t < 11 ∧ Int.tmod (t + 11) 11 = kk ∧ 0 ≤ kk ∧ kk ≤ 10 := by
  have h1 := Int.tmod_lt_of_pos k (show (0 : Int) < 11 by omega)
  have h2 := Int.lt_tmod_of_pos k (show (0 : Int) < 11 by omega)
  refine ⟨_, _, rfl, h2, h1, rfl, ?_⟩
  rw [Int.tmod_eq_emod_of_nonneg (by omega)]
  omega
theorem DR.bytF {q hh : Nat} {m m2 : DM} {A : Option Addr} {bs : List Int} (h : DR w0 W P q m hh m2) (hs : Same P wc W) (HBY : ∀ W', Below w0.heap.size w0 W' → Same P wc W' → Byt W' A bs) : ∀ F, (∀ k, F k → w0.heap.size ≤ k) → (∀ k, P k → ¬ F k) → BytF W F A bs := fun F f1 f2 W' ht =>
  HBY W' (h.bel.trans (ht.below h.bel.size f1)) (hs.trans ⟨fun k hk => ht.block k (h.low k hk) (f2 k hk), ht.size⟩)
/-- The values in the region of two barriers. -/
def VB29 (q hh gd : Nat) (r : Int) (b : Bool) (i : Nat) (v : Value) (w : World) : Prop :=
  match i with
  | 0 => v = .pointer (some ⟨q, 0, none⟩)
  | 1 | 5 => v = .pointer (some ⟨gd, 1, none⟩)
  | 2 | 6 => v = .int .i64 r
  | 3 | 7 => v = .bool b
  | 4 => v = .pointer (some ⟨hh, 0, none⟩)
  | _ => True
/-- The values in the region of two writes. -/
def VB25 (q hh gd : Nat) (r j : Int) (b : Bool) (x y : Value) (i : Nat) (v : Value) (w : World) : Prop :=
  match i with
  | 0 => v = .pointer (some ⟨q, 0, none⟩)
  | 7 => v = .pointer (some ⟨hh, 0, none⟩)
  | 1 | 8 => v = .pointer (some ⟨gd, 1, none⟩)
  | 3 | 10 => v = .pointer (some ⟨gd, 2, none⟩)
  | 2 | 9 => v = .int .i64 r
  | 4 | 11 => v = .int .i64 j
  | 5 | 16 => v = x
  | 12 | 17 => v = y
  | 6 | 13 => v = .bool b
  | 14 | 15 | 19 => v = .bool false
  | 18 => v = .bool true
  | _ => True
end
end Go.Proofs.Ytocmjbfbjiinhaa

/- The law DevAll answers true for every input, and leaves its arguments alone. No condition. -/
namespace Go.Proofs.Ytocmjbfbjiinhaa.devAll
open Go.ChangeShapes Go.WideShapes Go.ChangeAt Go.RowKit Go.Joins
set_option linter.unusedVariables false
theorem own : ownKnob Try.prog.godebug = none := by kernel_rfl
theorem laidOut : laidOutB Try.prog = true := by kernel_rfl
set_option maxRecDepth 100000 in
set_option maxHeartbeats 12800000 in
theorem walk (HRB : Hid RBar) (A0 : Option Addr) (l0 : List Int) (d0 : Nat) (A1 : Option Addr) (l1 : List Dd) (d1 : Nat) (w : World) (hd0 : l0.length ≤ d0) (hm0 : d0 ≤ 9223372036854775807) (hB0 : AllI l0) (hy0 : Nts w A0 l0) (hd1 : l1.length ≤ d1) (hm1 : d1 ≤ 9223372036854775807) (hB1 : DdsOk l1) (hNN : ∀ d ∈ l1, d.n ≤ 9223372036854775807) (hy1 : Deeds w A1 l1) :
    Calls Try.prog 3 #[.slice A0 l0.length d0, .slice A1 l1.length d1] w fun e w' => e = .returned (.bool true) ∧ Below w.heap.size w w' := by
  have HY0 := Lib.hid hy0
  have HY1 := Lib.hid hy1
  have HI := Lib.hid hB0
  have HD := Lib.hid hB1
  have HNN := Lib.hid hNN
  have HNEW : Hid (∀ W, Below w.heap.size w W → l0.length ≤ 1000000 → Calls Try.prog 12 #[.slice A0 l0.length d0] W fun e w' => NewE l0 W.heap.size e w' ∧ Below W.heap.size W w') := fun W hb hl => newdev_any A0 l0 d0 W hB0 (hy0.keep hb) hl
  have HYES : Hid (mayV l0 = true → ∀ W, Below w.heap.size w W → Calls Try.prog 11 #[.slice A0 l0.length d0] W fun e w' => (∃ q F, e = .returned (.tuple #[.pointer (some ⟨q, 0, none⟩), .bool true]) ∧ Dev w' F q (DM.make l0) ∧ ∀ k, F k → W.heap.size ≤ k) ∧ Below W.heap.size W w') := fun hm W hb => new_yes A0 l0 d0 W hB0 (hy0.keep hb) hm
  have HNO : Hid (mayV l0 = false → ∀ W, Below w.heap.size w W → l0.length ≤ 1000000 → Calls Try.prog 11 #[.slice A0 l0.length d0] W fun e w' => e = .returned (.tuple #[.pointer none, .bool false]) ∧ W = w') := fun hm W hb hl => new_no A0 l0 d0 W hB0 (hy0.keep hb) hl hm
  clear hB0 hB1 hy0 hy1 hNN
  obtain ⟨n0, hn0⟩ : ∃ n, n = l0.length := ⟨_, rfl⟩
  obtain ⟨n1, hn1⟩ : ∃ n, n = l1.length := ⟨_, rfl⟩
  rw [← hn0] at hd0 HNEW HYES HNO ⊢
  rw [← hn1] at hd1 ⊢
  have HN0 := Lib.hid hn0
  have HN1 := Lib.hid hn1
  clear hn0 hn1
  by_cases h40 : 40 < n1
  · clear HNEW HYES HNO
    go_enter Try.func3, Try.ntmps3
    go_wp2_with fail
    refine (begun_any _).mono ?_
    rintro e W1 ⟨rfl, hb1⟩
    go_wp2_with fail
    go_ret
    exact ⟨rfl, hb1⟩
  · by_cases h10 : 10 < n0
    · clear HNEW HYES HNO
      go_enter Try.func3, Try.ntmps3
      go_wp2_with fail
      refine (begun_any _).mono ?_
      rintro e W1 ⟨rfl, hb1⟩
      go_wp2_with fail
      go_ret
      exact ⟨rfl, hb1⟩
    · have x1 : decide (40 < (n1 : Int)) = false := decide_eq_false (by omega)
      have x2 : decide (10 < (n0 : Int)) = false := decide_eq_false (by omega)
      go_enter Try.func3, Try.ntmps3
      go_wp2_with fail
      refine (begun_any _).mono ?_
      rintro e W1 ⟨rfl, hb1⟩
      have HB1 := Lib.hid hb1
      clear hb1
      go_wp2_with fail
      clear x1 x2
      go_loop [5] (fun i => ∃ k : Nat, i = .int .i64 k ∧ k ≤ n0) (fun i => n0 - (intOf i).toNat)
      case atStart => exact ⟨0, rfl, Nat.zero_le _⟩
      case round =>
        obtain ⟨k, rfl, hk⟩ := hrel
        by_cases hlt : k < n0
        · obtain ⟨z, hz⟩ : ∃ z, l0[k]? = some z := ⟨_, List.getElem?_eq_getElem (by rw [← HN0.out]; exact hlt)⟩
          obtain ⟨a, rfl, hc⟩ := HY0.out k z hz
          have hc1 : W1.cell? (a.add k) = some (.int .i64 z) := keepC HB1.out hc
          have hzi := HI.out z (List.mem_of_getElem? hz)
          have hki : (k : Int) < n0 := by omega
          clear hz hc HNEW HYES HNO
          by_cases hz40 : 40 < z
          · by_cases hz1000 : z ≤ 1000
            · go_wp2_with fail
              go_ret
              exact ⟨rfl, HB1.out⟩
            · go_wp2_with fail
              go_round
              case rel => exact ⟨k + 1, by go_num, by omega⟩
              case measure => simp [intOf]; omega
          · go_wp2_with fail
            go_round
            case rel => exact ⟨k + 1, by go_num, by omega⟩
            case measure => simp [intOf]; omega
        · obtain rfl : k = n0 := by omega
          clear hlt
          cases hm : mayV l0
          · have HN := Lib.hid (HNO.out hm W1 HB1.out (by omega))
            have HM := Lib.hid hm
            have HND := Lib.hid (HNEW.out W1 HB1.out (by omega))
            clear hm
            go_wp2_with fail
            refine HN.out.mono ?_
            rintro e W2 ⟨rfl, rfl⟩
            go_wp2_with fail
            refine HND.out.mono ?_
            rintro e W2 ⟨hne, hb2⟩
            unfold NewE at hne
            rw [HM.out] at hne
            subst hne
            go_wp2_with fail
            have HB2 := Lib.hid (keepB HB1.out hb2)
            clear hb2
            go_loopw [10] (fun i wr => i = .int .i64 0 ∧ Below w.heap.size w wr) (fun _ _ => 0)
            case atStart => exact ⟨rfl, HB2.out⟩
            case round =>
              obtain ⟨rfl, hb⟩ := hrel
              by_cases h0 : (0 : Int) < n1
              · go_wp2_with fail
                go_ret
                exact ⟨rfl, hb⟩
              · go_wp2_with fail
                go_ret
                exact ⟨rfl, hb⟩
          · have HY := Lib.hid (HYES.out hm W1 HB1.out)
            have hbm : Both (DM.make l0) := Both.make hm
            have HBM := Lib.hid hbm
            have HM := Lib.hid hm
            clear hm hbm
            go_wp2_with fail
            refine HY.out.mono ?_
            rintro e W2 ⟨⟨q, F, rfl, hd, hF⟩, hb2⟩
            have HB2 := Lib.hid (keepB HB1.out hb2)
            have HDV := Lib.hid hd
            have HF := Lib.hid hF
            have HND := Lib.hid (HNEW.out W2 HB2.out (by omega))
            have HS2 := Lib.hid hb2.size
            clear hd hF hb2 HY HYES HNO
            go_wp2_with fail
            refine HND.out.mono ?_
            rintro e W3 ⟨hne, hb3⟩
            unfold NewE at hne
            rw [HM.out, if_pos rfl] at hne
            obtain ⟨hh, FR, rfl, hr, hFR⟩ := hne
            have hdr : DR w W3 (fun _ => False) q (DM.make l0) hh (DM.make l0) := by
              have s1 := HB1.out.size
              have s2 := HS2.out
              have s3 := hb3.size
              have hlt : ∀ k, F k → k < W2.heap.size := by obtain ⟨O, L, _, _, x⟩ := HDV.out; exact x
              have hlt2 : ∀ k, FR k → k < W3.heap.size := by obtain ⟨O, L, _, _, x⟩ := hr; exact x
              have hr' : Ref W3 FR hh (refOf (DM.make l0)).G (refOf (DM.make l0)).left := by rw [ref_make]; exact hr
              have hdv3 : Dev W3 F q (DM.make l0) := HDV.out.keep (fun k hk _ => hb3.block k hk) hb3.size
              exact ⟨⟨FR, ⟨⟨F, hdv3, fun k hk => by have := HF.out k hk; omega, fun k hk hf => by
                rcases hk with hk | hk
                · exact hk
                · have := hlt k hf; have := hFR k hk; omega⟩, fun k hk => by
                  rcases hk with hk | hk
                  · exact hk.elim
                  · exact hlt2 k hk, keepB HB2.out hb3⟩, hr', fun k hk => by have := hFR k hk; omega, fun k hk => hk.elim⟩, HBM.out⟩
            have HDR := Lib.hid hdr
            have HDN : Hid ((DM.make l0).done.length = 0) := Lib.hid rfl
            clear hdr hr hFR hb3 HND HNEW HDV HF HBM HM
            generalize DM.make l0 = m0 at *
            go_wp2_with fail
            go_loopw [6, 10] (fun s6 i wr => ∃ (k q : Nat) (m : DM), s6 = .pointer (some ⟨q, 0, none⟩) ∧ i = .int .i64 k ∧ k ≤ n1 ∧ DR w wr (fun _ => False) q m hh m ∧ m.done.length ≤ k) (fun _ i _ => n1 - (intOf i).toNat)
            case atStart => exact ⟨0, q, m0, rfl, rfl, Nat.zero_le _, HDR.out, by rw [HDN.out]; exact Nat.le_refl _⟩
            case round =>
              obtain ⟨k, q, m, rfl, rfl, hk, hdr, hdn⟩ := hrel
              have HR := Lib.hid hdr
              have HDNK := Lib.hid hdn
              clear hdr hdn HDR HDN
              by_cases hlt : k < n1
              · obtain ⟨d, hdk⟩ : ∃ d, l1[k]? = some d := ⟨_, List.getElem?_eq_getElem (by rw [← HN1.out]; exact hlt)⟩
                obtain ⟨a, rfl, hat⟩ := (HY1.out.keep HR.out.bel) k d hdk
                have HOK := Lib.hid (HD.out d (List.mem_of_getElem? hdk))
                have HNL := Lib.hid (HNN.out d (List.mem_of_getElem? hdk))
                have HAT0 : Hid (DdAt w (a.add (k * 6)) d) := by
                  obtain ⟨a2, e2, h2⟩ := HY1.out k d hdk
                  injection e2 with e2; subst e2; exact Lib.hid h2
                have c0 := hat.c0
                have c1 := hat.c1
                have c2 := hat.c2
                have c3 := hat.c3
                have c4 := hat.c4
                have c5 := hat.c5
                have hki : (k : Int) < n1 := by omega
                clear hat hdk
                go_upto_region 18 with fail
                clear c0 c1 c2 c3 c4 c5
                have hdb : DdBlk (wr.alloc (Obj.cells #[.int .i64 d.k, .int .i64 d.r, .int .i64 d.i, .int .i64 d.n, .slice d.A d.b.length d.c, .slice d.K d.ks.length d.kc] 34)) wr.heap.size d := heap_alloc_new _ _
                have hdr4 := HR.out.below (P' := fun x => x = wr.heap.size) ((Below.refl wr.heap.size wr).alloc (Nat.le_refl _) (Obj.cells #[.int .i64 d.k, .int .i64 d.r, .int .i64 d.i, .int .i64 d.n, .slice d.A d.b.length d.c, .slice d.K d.ks.length d.kc] 34)) (fun x hx => Or.inr ⟨by omega, by simp; omega⟩)
                generalize wr.alloc (Obj.cells #[.int .i64 d.k, .int .i64 d.r, .int .i64 d.i, .int .i64 d.n, .slice d.A d.b.length d.c, .slice d.K d.ks.length d.kc] 34) = w4 at *
                generalize wr.heap.size = gd at *
                have HDB := Lib.hid hdb
                have HR4 := Lib.hid hdr4
                have c0 := hdb.c0
                have c4 := hdb.c4
                have c5 := hdb.c5
                clear hdb hdr4 HR
                by_cases hb100 : 100 < d.b.length
                · have hbi : (100 : Int) < d.b.length := by omega
                  go_wp2_with fail
                  go_ret
                  exact ⟨rfl, HR4.out.bel⟩
                by_cases hk10 : 10 < d.ks.length
                · have hbi : ¬ (100 : Int) < d.b.length := by omega
                  have hki2 : (10 : Int) < d.ks.length := by omega
                  go_wp2_with fail
                  go_ret
                  exact ⟨rfl, HR4.out.bel⟩
                have hbi : ¬ (100 : Int) < d.b.length := by omega
                have hki2 : ¬ (10 : Int) < d.ks.length := by omega
                obtain ⟨t, kk, ht, ht1, ht2, hkk, hk0, hk1⟩ := kind_of d.k
                have hwt : IntKind.i64.wrap t = t := IntWalk.i64_in _ (by omega)
                have hwt2 : IntKind.i64.wrap (t + 11) = t + 11 := IntWalk.i64_in _ (by omega)
                have hwk : IntKind.i64.wrap kk = kk := IntWalk.i64_in _ (by omega)
                go_upto_region 20 with fail
                go_cut [94] (fun s wx => s = .int .i64 kk ∧ wx = w4)
                case first =>
                  go_wp2_with fail
                  go_meet
                  case rel => exact ⟨rfl, rfl⟩
                case rest =>
                obtain ⟨rfl, rfl⟩ := hcut
                clear c0 c4 c5 ht hkk hwt hwt2 hwk ht1 ht2
                have HB100 : Hid (d.b.length ≤ 100) := Lib.hid (by omega)
                have HK10 : Hid (d.ks.length ≤ 10) := Lib.hid (by omega)
                clear hbi hki2 hb100 hk10
                go_upto_block 4 with fail
                go_cut [6] (fun s6 wx => ∃ (q' : Nat) (m' : DM), s6 = .pointer (some ⟨q', 0, none⟩) ∧ DR w wx (fun x => x = gd) q' m' hh m' ∧ m'.done.length ≤ k + 1 ∧ DdBlk wx gd d)
                case first =>
                  have HZ : Hid (0 ≤ kk ∧ kk ≤ 10) := Lib.hid ⟨hk0, hk1⟩
                  have hcases : kk = 5 ∨ kk = 6 ∨ kk = 7 ∨ kk = 8 ∨ kk = 9 ∨ kk = 10 ∨ kk ≤ 4 := by omega
                  clear hk0 hk1
                  rcases hcases with rfl | rfl | rfl | rfl | rfl | rfl | hle4
                  · go_upto_region 29 with fail
                    have hJ0 : JD w wc (fun x => x = gd) q hh m (m.doBarrier d.r) 3 7 (fun _ => false) wc.drew := JD.start HR4.out
                    refine wp_region_rgj (VB29 q hh gd d.r (hasR m d.r)) (JD w wc (fun x => x = gd) q hh m (m.doBarrier d.r) 3 7) (fun _ _ _ => True) (by kernel_rfl) (by kernel_rfl) (fun i j v w w' _ h _ => h) hJ0 ?_
                    clear hJ0
                    simp only [RAll]
                    refine ⟨?_, ?_, ?_, ?_, ?_, ?_, ?_, ?_, ?_⟩
                    · refine RStepJ.of rfl fun T W Ls hag hni hJ hdn hd => ?_
                      have e6 : T.getD 6 undef = _ := (agree_at hag 6 (by kernel_rfl)).trans rfl
                      clear hag hd hdn
                      go_simp
                      exact ⟨_, rfl, rfl, hJ.add' 0 (by decide) (by decide)⟩
                    · refine RStepJ.of rfl fun T W Ls hag hni hJ hdn hd => ?_
                      have e11 : T.getD 11 undef = _ := (agree_at hag 11 (by kernel_rfl)).trans rfl
                      clear hag hd hdn
                      go_simp
                      exact ⟨_, rfl, rfl, hJ.add' 1 (by decide) (by decide)⟩
                    · refine RStepJ.of rfl fun T W Ls hag hni hJ hdn hd => ?_
                      have d130 : T.getD 130 undef = _ := hd ⟨1, .data⟩ (by simp) rfl _ rfl
                      have fct0 := (HDB.out.same hJ.2 rfl).c1
                      clear hag hd hdn
                      go_simp
                      exact ⟨_, rfl, rfl, hJ.add' 2 (by decide) (by decide)⟩
                    · refine RStepJ.of rfl fun T W Ls hag hni hJ hdn hd => ?_
                      have d129 : T.getD 129 undef = _ := hd ⟨0, .data⟩ (by simp) rfl _ rfl
                      have d131 : T.getD 131 undef = _ := hd ⟨2, .data⟩ (by simp) rfl _ rfl
                      have hc := (hJ.fst hni).1.barrier d.r HOK.out.r (by have := HDNK.out; omega)
                      have hs0 := hJ.2
                      clear hag hd hdn
                      go_simp
                      refine hc.mono ?_
                      rintro e w' ⟨rfl, hd', hs'⟩
                      exact ⟨_, rfl, rfl, JD.did1 hd' (hs0.trans hs') (by decide)⟩
                    · refine RStepJ.of rfl fun T W Ls hag hni hJ hdn hd => ?_
                      have e8 : T.getD 8 undef = _ := (agree_at hag 8 (by kernel_rfl)).trans rfl
                      clear hag hd hdn
                      go_simp
                      exact ⟨_, rfl, rfl, hJ.add' 4 (by decide) (by decide)⟩
                    · refine RStepJ.of rfl fun T W Ls hag hni hJ hdn hd => ?_
                      have e11 : T.getD 11 undef = _ := (agree_at hag 11 (by kernel_rfl)).trans rfl
                      clear hag hd hdn
                      go_simp
                      exact ⟨_, rfl, rfl, hJ.add' 5 (by decide) (by decide)⟩
                    · refine RStepJ.of rfl fun T W Ls hag hni hJ hdn hd => ?_
                      have d134 : T.getD 134 undef = _ := hd ⟨5, .data⟩ (by simp) rfl _ rfl
                      have fct0 := (HDB.out.same hJ.2 rfl).c1
                      clear hag hd hdn
                      go_simp
                      exact ⟨_, rfl, rfl, hJ.add' 6 (by decide) (by decide)⟩
                    · refine RStepJ.of rfl fun T W Ls hag hni hJ hdn hd => ?_
                      have d133 : T.getD 133 undef = _ := hd ⟨4, .data⟩ (by simp) rfl _ rfl
                      have d135 : T.getD 135 undef = _ := hd ⟨6, .data⟩ (by simp) rfl _ rfl
                      have hc := (hJ.snd hni).1.rbarrier HRB.out d.r HOK.out.r (by have := HDNK.out; omega)
                      have hs0 := hJ.2
                      clear hag hd hdn
                      go_simp
                      refine hc.mono ?_
                      rintro e w' ⟨rfl, hd', hs'⟩
                      exact ⟨_, rfl, rfl, JD.did2 hd' (hs0.trans hs') (by decide)⟩
                    · refine RLastJ.of rfl fun T W Ls hag hall hni hJ hd => ?_
                      have d132 : T.getD 132 undef = _ := hd 3 _ (by simp) rfl
                      have d136 : T.getD 136 undef = _ := hd 7 _ (by simp) rfl
                      have hfin := hJ.both (hall 3 (by decide)) (hall 7 (by decide))
                      have HFIN := Lib.hid hfin
                      obtain ⟨f, hf, hT⟩ := agree_fn hag
                      have h132 := (hf 132).trans d132
                      have h136 := (hf 136).trans d136
                      clear hag hd d132 d136 hf hJ hall hfin
                      rw [hT]
                      clear hT
                      simp only [List.filterMap_cons, List.filterMap_nil, List.foldl_cons, List.foldl_nil, List.setIfInBounds_toArray, List.set_cons_succ, List.set_cons_zero, h132, h136]
                      go_wp2_with fail
                      go_meet
                      case rel => exact ⟨q, _, rfl, HFIN.out.1, Nat.le_trans (barrier_done m d.r) (by have := HDNK.out; omega), HDB.out.same HFIN.out.2 rfl⟩
                  · go_upto_region 29 with fail
                    have hJ0 : JD w wc (fun x => x = gd) q hh m (m.doBarrier d.r) 3 7 (fun _ => false) wc.drew := JD.start HR4.out
                    refine wp_region_rgj (VB29 q hh gd d.r (hasR m d.r)) (JD w wc (fun x => x = gd) q hh m (m.doBarrier d.r) 3 7) (fun _ _ _ => True) (by kernel_rfl) (by kernel_rfl) (fun i j v w w' _ h _ => h) hJ0 ?_
                    clear hJ0
                    simp only [RAll]
                    refine ⟨?_, ?_, ?_, ?_, ?_, ?_, ?_, ?_, ?_⟩
                    · refine RStepJ.of rfl fun T W Ls hag hni hJ hdn hd => ?_
                      have e6 : T.getD 6 undef = _ := (agree_at hag 6 (by kernel_rfl)).trans rfl
                      clear hag hd hdn
                      go_simp
                      exact ⟨_, rfl, rfl, hJ.add' 0 (by decide) (by decide)⟩
                    · refine RStepJ.of rfl fun T W Ls hag hni hJ hdn hd => ?_
                      have e11 : T.getD 11 undef = _ := (agree_at hag 11 (by kernel_rfl)).trans rfl
                      clear hag hd hdn
                      go_simp
                      exact ⟨_, rfl, rfl, hJ.add' 1 (by decide) (by decide)⟩
                    · refine RStepJ.of rfl fun T W Ls hag hni hJ hdn hd => ?_
                      have d130 : T.getD 130 undef = _ := hd ⟨1, .data⟩ (by simp) rfl _ rfl
                      have fct0 := (HDB.out.same hJ.2 rfl).c1
                      clear hag hd hdn
                      go_simp
                      exact ⟨_, rfl, rfl, hJ.add' 2 (by decide) (by decide)⟩
                    · refine RStepJ.of rfl fun T W Ls hag hni hJ hdn hd => ?_
                      have d129 : T.getD 129 undef = _ := hd ⟨0, .data⟩ (by simp) rfl _ rfl
                      have d131 : T.getD 131 undef = _ := hd ⟨2, .data⟩ (by simp) rfl _ rfl
                      have hc := (hJ.fst hni).1.barrier d.r HOK.out.r (by have := HDNK.out; omega)
                      have hs0 := hJ.2
                      clear hag hd hdn
                      go_simp
                      refine hc.mono ?_
                      rintro e w' ⟨rfl, hd', hs'⟩
                      exact ⟨_, rfl, rfl, JD.did1 hd' (hs0.trans hs') (by decide)⟩
                    · refine RStepJ.of rfl fun T W Ls hag hni hJ hdn hd => ?_
                      have e8 : T.getD 8 undef = _ := (agree_at hag 8 (by kernel_rfl)).trans rfl
                      clear hag hd hdn
                      go_simp
                      exact ⟨_, rfl, rfl, hJ.add' 4 (by decide) (by decide)⟩
                    · refine RStepJ.of rfl fun T W Ls hag hni hJ hdn hd => ?_
                      have e11 : T.getD 11 undef = _ := (agree_at hag 11 (by kernel_rfl)).trans rfl
                      clear hag hd hdn
                      go_simp
                      exact ⟨_, rfl, rfl, hJ.add' 5 (by decide) (by decide)⟩
                    · refine RStepJ.of rfl fun T W Ls hag hni hJ hdn hd => ?_
                      have d134 : T.getD 134 undef = _ := hd ⟨5, .data⟩ (by simp) rfl _ rfl
                      have fct0 := (HDB.out.same hJ.2 rfl).c1
                      clear hag hd hdn
                      go_simp
                      exact ⟨_, rfl, rfl, hJ.add' 6 (by decide) (by decide)⟩
                    · refine RStepJ.of rfl fun T W Ls hag hni hJ hdn hd => ?_
                      have d133 : T.getD 133 undef = _ := hd ⟨4, .data⟩ (by simp) rfl _ rfl
                      have d135 : T.getD 135 undef = _ := hd ⟨6, .data⟩ (by simp) rfl _ rfl
                      have hc := (hJ.snd hni).1.rbarrier HRB.out d.r HOK.out.r (by have := HDNK.out; omega)
                      have hs0 := hJ.2
                      clear hag hd hdn
                      go_simp
                      refine hc.mono ?_
                      rintro e w' ⟨rfl, hd', hs'⟩
                      exact ⟨_, rfl, rfl, JD.did2 hd' (hs0.trans hs') (by decide)⟩
                    · refine RLastJ.of rfl fun T W Ls hag hall hni hJ hd => ?_
                      have d132 : T.getD 132 undef = _ := hd 3 _ (by simp) rfl
                      have d136 : T.getD 136 undef = _ := hd 7 _ (by simp) rfl
                      have hfin := hJ.both (hall 3 (by decide)) (hall 7 (by decide))
                      have HFIN := Lib.hid hfin
                      obtain ⟨f, hf, hT⟩ := agree_fn hag
                      have h132 := (hf 132).trans d132
                      have h136 := (hf 136).trans d136
                      clear hag hd d132 d136 hf hJ hall hfin
                      rw [hT]
                      clear hT
                      simp only [List.filterMap_cons, List.filterMap_nil, List.foldl_cons, List.foldl_nil, List.setIfInBounds_toArray, List.set_cons_succ, List.set_cons_zero, h132, h136]
                      go_wp2_with fail
                      go_meet
                      case rel => exact ⟨q, _, rfl, HFIN.out.1, Nat.le_trans (barrier_done m d.r) (by have := HDNK.out; omega), HDB.out.same HFIN.out.2 rfl⟩
                  · go_wp2_with fail
                    go_meet
                    case rel => exact ⟨q, m, rfl, HR4.out, by have := HDNK.out; omega, HDB.out⟩
                  · have HST := Lib.hid (HR4.out.stop d.n HOK.out.n HNL.out)
                    have c3 := HDB.out.c3
                    by_cases hn : d.n < 0
                    · have HSN := Lib.hid (stop_neg m hn)
                      go_wp2_with fail
                      refine HST.out.mono ?_
                      rintro e w5 ⟨rfl, hd5, hs5⟩
                      have HDB5 := Lib.hid (HDB.out.same hs5 rfl)
                      have HRS := Lib.hid (hd5.rstop (-1) (by constructor <;> omega) (by omega))
                      clear c3 hd5 hs5 HST
                      go_wp2_with fail
                      refine HRS.out.mono ?_
                      rintro e w6 ⟨rfl, hd6, hs6⟩
                      rw [HSN.out] at hd6
                      have HDB6 := Lib.hid (HDB5.out.same hs6 rfl)
                      have HD6 := Lib.hid hd6
                      have hsd := hd6.stopped
                      rw [stopped_stop m (-1) (Or.inl rfl)] at hsd
                      have HSD := Lib.hid hsd
                      clear hd6 hs6 hsd HRS
                      go_wp2_with fail
                      refine HSD.out.mono ?_
                      rintro e w7 ⟨rfl, rfl⟩
                      go_wp2_with fail
                      go_meet
                      case rel => exact ⟨q, _, rfl, HD6.out, by show m.done.length ≤ _; have := HDNK.out; omega, HDB6.out⟩
                    · go_wp2_with fail
                      refine HST.out.mono ?_
                      rintro e w5 ⟨rfl, hd5, hs5⟩
                      have HDB5 := Lib.hid (HDB.out.same hs5 rfl)
                      have HRS := Lib.hid (hd5.rstop d.n HOK.out.n HNL.out)
                      clear c3 hd5 hs5 HST
                      go_wp2_with fail
                      refine HRS.out.mono ?_
                      rintro e w6 ⟨rfl, hd6, hs6⟩
                      have HDB6 := Lib.hid (HDB5.out.same hs6 rfl)
                      have HD6 := Lib.hid hd6
                      have hsd := hd6.stopped
                      rw [stopped_stop m d.n (Or.inr (by omega))] at hsd
                      have HSD := Lib.hid hsd
                      clear hd6 hs6 hsd HRS
                      go_wp2_with fail
                      refine HSD.out.mono ?_
                      rintro e w7 ⟨rfl, rfl⟩
                      obtain ⟨z, hz⟩ : ∃ z, (d.n == 0) = z := ⟨_, rfl⟩
                      rw [hz]
                      go_wp2_with fail
                      go_meet
                      case rel => exact ⟨q, _, rfl, HD6.out, by show m.done.length ≤ _; have := HDNK.out; omega, HDB6.out⟩
                  · have HCR := Lib.hid (HR4.out.crash d.K d.ks d.kc (fun F f1 f2 => txtsF_of HAT0.out.ks HR4.out.bel f1) (by have := HK10.out; omega) (by have := HDNK.out; omega))
                    have c5 := HDB.out.c5
                    go_wp2_with fail
                    refine HCR.out.mono ?_
                    rintro e w5 ⟨rfl, hd5, hs5⟩
                    have HDB5 := Lib.hid (HDB.out.same hs5 rfl)
                    have HRS := Lib.hid (hd5.rcrash d.K d.ks d.kc (fun F f1 f2 => txtsF_of HAT0.out.ks hd5.bel f1) (by have := HK10.out; omega) (by have := HDNK.out; omega))
                    have c5 := HDB5.out.c5
                    clear hd5 hs5 HCR
                    go_wp2_with fail
                    refine HRS.out.mono ?_
                    rintro e w6 ⟨rfl, hd6, hs6⟩
                    have HD6 := Lib.hid hd6
                    have HDB6 := Lib.hid (HDB5.out.same hs6 rfl)
                    clear hd6 hs6 HRS c5
                    go_wp2_with fail
                    go_meet
                    case rel => exact ⟨q, _, rfl, HD6.out, by rw [crash_done]; have := HDNK.out; omega, HDB6.out⟩
                  · have HCP := Lib.hid (HR4.out.copy (by have := HDNK.out; omega))
                    have hy9 : ∀ W : World, Byt (W.alloc (.cells #[.int .u8 9] 5)) (some ⟨W.heap.size, 0, none⟩) [9] := fun W => byt_blk (heap_alloc_new W (.cells #[.int .u8 9] 5)) rfl
                    have h9 : AllB [9] := fun x hx => by simp at hx; omega
                    have HF := Lib.hid (fun W : World => full_any (some ⟨W.heap.size, 0, none⟩) [9] 1 _ h9 (hy9 W) (by simp))
                    have HOK9 := Lib.hid (fullV_ok h9)
                    generalize fullV [9] = f9 at *
                    clear hy9 h9
                    go_wp2_with fail
                    refine HCP.out.mono ?_
                    rintro e w5 ⟨⟨q', FC, rfl, hF1, hF2, hdc, hd5⟩, hb5⟩
                    have HDB5 := Lib.hid (HDB.out.keep hb5)
                    have HDC5 := Lib.hid hdc
                    have HD5 := Lib.hid hd5
                    have HF1 := Lib.hid hF1
                    have HF2 := Lib.hid hF2
                    clear hF1 hF2 hdc hd5 hb5 HCP
                    go_wp2_with fail
                    refine (HF.out w5).mono ?_
                    rintro e w6 ⟨⟨g, rfl, hg, hblk⟩, hb6⟩
                    have hb56 : Below w5.heap.size w5 w6 := keepB ((Below.refl w5.heap.size w5).alloc (Nat.le_refl _) _) hb6
                    have HDB6 := Lib.hid (HDB5.out.keep hb56)
                    have HDC6 := Lib.hid (HDC5.out.keep (fun k hk _ => hb56.block k hk) hb56.size)
                    have hd6 := HD5.out.below (P' := fun k => k = gd ∨ FC k) hb56 (fun k hk => Or.inl hk)
                    have HWR := Lib.hid (hd6.write 0 0 (by constructor <;> omega) (by constructor <;> omega) (some ⟨g, 0, none⟩) f9 64 HOK9.out.2 hblk.byt (by rw [HOK9.out.1]; omega) (by have := HDNK.out; omega))
                    rw [HOK9.out.1] at HWR
                    clear hg hblk hb6 hb56 hd6
                    go_wp2_with fail
                    refine HWR.out.mono ?_
                    rintro e w7 ⟨rfl, hd7, hs7⟩
                    have HDB7 := Lib.hid (HDB6.out.same hs7 (Or.inl rfl))
                    have HDC7 := Lib.hid (HDC6.out.same (⟨fun k hk => hs7.blk k (Or.inr hk), hs7.size⟩ : Same FC w6 w7))
                    have HBR := Lib.hid (hd7.barrier 0 (by constructor <;> omega) (by have := write_done m 0 0 f9; have := HDNK.out; omega))
                    clear hd7 hs7 HWR
                    go_wp2_with fail
                    refine HBR.out.mono ?_
                    rintro e w8 ⟨rfl, hd8, hs8⟩
                    have HDB8 := Lib.hid (HDB7.out.same hs8 (Or.inl rfl))
                    have hdc8 := HDC7.out.same (⟨fun k hk => hs8.blk k (Or.inr hk), hs8.size⟩ : Same FC w7 w8)
                    have HD8 := Lib.hid (hd8.turn hdc8 HF1.out HF2.out)
                    clear hd8 hs8 HBR hdc8
                    go_wp2_with fail
                    go_meet
                    case rel => exact ⟨q', m, rfl, HD8.out, by have := HDNK.out; omega, HDB8.out⟩
                  · have x5 : (kk == 5) = false := by simp; omega
                    have x6 : (kk == 6) = false := by simp; omega
                    have x7 : (kk == 7) = false := by simp; omega
                    have x8 : (kk == 8) = false := by simp; omega
                    have x9 : (kk == 9) = false := by simp; omega
                    have x10 : (kk == 10) = false := by simp; omega
                    have y5 : ¬ kk = 5 := by omega
                    have y6 : ¬ kk = 6 := by omega
                    have y7 : ¬ kk = 7 := by omega
                    have y8 : ¬ kk = 8 := by omega
                    have y9 : ¬ kk = 9 := by omega
                    have y10 : ¬ kk = 10 := by omega
                    have HFU := Lib.hid (full_any d.A d.b d.c wc HOK.out.b (HAT0.out.b.keep HR4.out.bel) (by have := HOK.out.bl; have := HOK.out.bc; omega))
                    have HFOK := Lib.hid (fullV_ok HOK.out.b)
                    have c3 := HDB.out.c3
                    have c4 := HDB.out.c4
                    go_wp2_with fail
                    refine HFU.out.mono ?_
                    rintro e w5 ⟨⟨g, rfl, hg, hblk⟩, hb5⟩
                    have HDB5 := Lib.hid (HDB.out.keep hb5)
                    have HGL := Lib.hid (room_lt hblk)
                    have hgl := room_lt hblk
                    have HD5 := Lib.hid (HR4.out.below (P' := fun x => x = gd ∨ x = g) hb5 (fun x hx => hx.imp id (fun e => by omega)))
                    have c3 := HDB5.out.c3
                    have c4 := HDB5.out.c4
                    have HBLK := Lib.hid hblk
                    clear hg hblk hb5 hgl HFU
                    by_cases hn3 : d.n = 3
                    · have HBYT : Hid (∀ W', Below w.heap.size w W' → Same (fun x => x = g) w5 W' → Byt W' d.A d.b) := Lib.hid (fun W' h1 _ => HAT0.out.b.keep h1)
                      have HOUT := Lib.hid (out_any d.A d.b d.c w5 (by have := HB100.out; omega) HOK.out.b (HBYT.out w5 HD5.out.bel ⟨fun k _ => rfl, Nat.le_refl _⟩))
                      have HBB : Hid (AllB d.b ∧ d.b.length ≤ 100) := Lib.hid ⟨HOK.out.b, HB100.out⟩
                      generalize d.A = Ab at *
                      generalize d.b = bb at *
                      generalize d.c = cb at *
                      go_wp2_with fail
                      refine (HOUT.out).mono ?_
                      rintro e w6 ⟨gx, Cx, rfl, hgx, hxb, hroom, hb6⟩
                      have HROOM := Lib.hid (And.intro hxb hroom)
                      have HDB6 := Lib.hid (HDB5.out.keep hb6)
                      have hgl := room_lt hxb
                      have hd6 := HD5.out.below (P' := fun x => x = gd ∨ x = gx ∨ x = g) hb6 (fun x hx => by
                        rcases hx with hx | hx | hx
                        · exact Or.inl (Or.inl hx)
                        · exact Or.inr (by omega)
                        · exact Or.inl (Or.inr hx))
                      have HD6 := Lib.hid hd6
                      have HBY : Hid (∀ W', Below w.heap.size w W' → Same (fun x => x = gd ∨ x = gx ∨ x = g) w6 W' → Byt W' Ab bb) := Lib.hid (fun W' h1 h2 => HBYT.out W' h1 (⟨fun k hk => (h2.blk k (Or.inr (Or.inr hk))).trans (hb6.block k (by rw [hk]; exact HGL.out)), Nat.le_trans hb6.size h2.size⟩))
                      clear hgx hxb hroom hb6 hgl hd6 HOUT
                      go_upto_region 25 with fail
                      have hJ0 : JD w w6 (fun x => x = gd ∨ x = gx ∨ x = g) q hh m (m.doWrite d.r d.i bb) 6 13 (fun _ => false) w6.drew := JD.start HD6.out
                      obtain ⟨nb, hnb⟩ : ∃ n, n = bb.length := ⟨_, rfl⟩
                      have HNB : Hid (bb.length = nb) := Lib.hid hnb.symm
                      rw [← hnb]
                      clear hnb
                      refine wp_region_rgj (VB25 q hh gd d.r d.i (okWrite m d.r d.i bb) (.slice (some ⟨gx, 0, none⟩) nb (nb + 7)) (.slice Ab nb cb)) (JD w w6 (fun x => x = gd ∨ x = gx ∨ x = g) q hh m (m.doWrite d.r d.i bb) 6 13) (fun _ _ _ => True) (by kernel_rfl) (by kernel_rfl) (fun i j v w w' _ h _ => h) hJ0 ?_
                      clear hJ0
                      simp only [RAll]
                      refine ⟨?_, ?_, ?_, ?_, ?_, ?_, ?_, ?_, ?_, ?_, ?_, ?_, ?_, ?_, ?_, ?_, ?_, ?_, ?_, ?_, ?_⟩
                      · refine RStepJ.of rfl fun T W Ls hag hni hJ hdn hd => ?_
                        have e6 : T.getD 6 undef = _ := (agree_at hag 6 (by kernel_rfl)).trans rfl
                        clear hag hd hdn
                        go_simp
                        exact ⟨_, rfl, rfl, hJ.add' 0 (by decide) (by decide)⟩
                      · refine RStepJ.of rfl fun T W Ls hag hni hJ hdn hd => ?_
                        have e11 : T.getD 11 undef = _ := (agree_at hag 11 (by kernel_rfl)).trans rfl
                        clear hag hd hdn
                        go_simp
                        exact ⟨_, rfl, rfl, hJ.add' 1 (by decide) (by decide)⟩
                      · refine RStepJ.of rfl fun T W Ls hag hni hJ hdn hd => ?_
                        have d106 : T.getD 106 undef = _ := hd ⟨1, .data⟩ (by simp) rfl _ rfl
                        have fct0 := (HDB6.out.same hJ.2 (Or.inl rfl)).c1
                        clear hag hd hdn
                        go_simp
                        exact ⟨_, rfl, rfl, hJ.add' 2 (by decide) (by decide)⟩
                      · refine RStepJ.of rfl fun T W Ls hag hni hJ hdn hd => ?_
                        have e11 : T.getD 11 undef = _ := (agree_at hag 11 (by kernel_rfl)).trans rfl
                        clear hag hd hdn
                        go_simp
                        exact ⟨_, rfl, rfl, hJ.add' 3 (by decide) (by decide)⟩
                      · refine RStepJ.of rfl fun T W Ls hag hni hJ hdn hd => ?_
                        have d108 : T.getD 108 undef = _ := hd ⟨3, .data⟩ (by simp) rfl _ rfl
                        have fct0 := (HDB6.out.same hJ.2 (Or.inl rfl)).c2
                        clear hag hd hdn
                        go_simp
                        exact ⟨_, rfl, rfl, hJ.add' 4 (by decide) (by decide)⟩
                      · refine RStepJ.of rfl fun T W Ls hag hni hJ hdn hd => ?_
                        have e15 : T.getD 15 undef = _ := (agree_at hag 15 (by kernel_rfl)).trans rfl
                        clear hag hd hdn
                        go_simp
                        exact ⟨_, rfl, rfl, hJ.add' 5 (by decide) (by decide)⟩
                      · refine RStepJ.of rfl fun T W Ls hag hni hJ hdn hd => ?_
                        have d105 : T.getD 105 undef = _ := hd ⟨0, .data⟩ (by simp) rfl _ rfl
                        have d107 : T.getD 107 undef = _ := hd ⟨2, .data⟩ (by simp) rfl _ rfl
                        have d109 : T.getD 109 undef = _ := hd ⟨4, .data⟩ (by simp) rfl _ rfl
                        have d110 : T.getD 110 undef = _ := hd ⟨5, .data⟩ (by simp) rfl _ rfl
                        have hc := (hJ.fst hni).1.write d.r d.i HOK.out.r HOK.out.i (some ⟨gx, 0, none⟩) bb (bb.length + 7) HBB.out.1 (HROOM.out.2.byt ((hJ.2.blk gx (Or.inr (Or.inl rfl))).trans HROOM.out.1)) (by have := HBB.out.2; omega) (by have := HDNK.out; omega)
                        have hs0 := hJ.2
                        rw [HNB.out] at hc
                        clear hag hd hdn
                        go_simp
                        refine hc.mono ?_
                        rintro e w' ⟨rfl, hd', hs'⟩
                        exact ⟨_, rfl, rfl, JD.did1 hd' (hs0.trans hs') (by decide)⟩
                      · refine RStepJ.of rfl fun T W Ls hag hni hJ hdn hd => ?_
                        have e8 : T.getD 8 undef = _ := (agree_at hag 8 (by kernel_rfl)).trans rfl
                        clear hag hd hdn
                        go_simp
                        exact ⟨_, rfl, rfl, hJ.add' 7 (by decide) (by decide)⟩
                      · refine RStepJ.of rfl fun T W Ls hag hni hJ hdn hd => ?_
                        have e11 : T.getD 11 undef = _ := (agree_at hag 11 (by kernel_rfl)).trans rfl
                        clear hag hd hdn
                        go_simp
                        exact ⟨_, rfl, rfl, hJ.add' 8 (by decide) (by decide)⟩
                      · refine RStepJ.of rfl fun T W Ls hag hni hJ hdn hd => ?_
                        have d113 : T.getD 113 undef = _ := hd ⟨8, .data⟩ (by simp) rfl _ rfl
                        have fct0 := (HDB6.out.same hJ.2 (Or.inl rfl)).c1
                        clear hag hd hdn
                        go_simp
                        exact ⟨_, rfl, rfl, hJ.add' 9 (by decide) (by decide)⟩
                      · refine RStepJ.of rfl fun T W Ls hag hni hJ hdn hd => ?_
                        have e11 : T.getD 11 undef = _ := (agree_at hag 11 (by kernel_rfl)).trans rfl
                        clear hag hd hdn
                        go_simp
                        exact ⟨_, rfl, rfl, hJ.add' 10 (by decide) (by decide)⟩
                      · refine RStepJ.of rfl fun T W Ls hag hni hJ hdn hd => ?_
                        have d115 : T.getD 115 undef = _ := hd ⟨10, .data⟩ (by simp) rfl _ rfl
                        have fct0 := (HDB6.out.same hJ.2 (Or.inl rfl)).c2
                        clear hag hd hdn
                        go_simp
                        exact ⟨_, rfl, rfl, hJ.add' 11 (by decide) (by decide)⟩
                      · refine RStepJ.of rfl fun T W Ls hag hni hJ hdn hd => ?_
                        have e14 : T.getD 14 undef = _ := (agree_at hag 14 (by kernel_rfl)).trans rfl
                        clear hag hd hdn
                        go_simp
                        exact ⟨_, rfl, rfl, hJ.add' 12 (by decide) (by decide)⟩
                      · refine RStepJ.of rfl fun T W Ls hag hni hJ hdn hd => ?_
                        have d112 : T.getD 112 undef = _ := hd ⟨7, .data⟩ (by simp) rfl _ rfl
                        have d114 : T.getD 114 undef = _ := hd ⟨9, .data⟩ (by simp) rfl _ rfl
                        have d116 : T.getD 116 undef = _ := hd ⟨11, .data⟩ (by simp) rfl _ rfl
                        have d117 : T.getD 117 undef = _ := hd ⟨12, .data⟩ (by simp) rfl _ rfl
                        have hc := (hJ.snd hni).1.rwrite d.r d.i HOK.out.r HOK.out.i Ab bb cb HBB.out.1 ((hJ.snd hni).1.bytF hJ.2 HBY.out) (by have := HBB.out.2; omega) (by have := HDNK.out; omega)
                        have hs0 := hJ.2
                        rw [HNB.out] at hc
                        clear hag hd hdn
                        go_simp
                        refine hc.mono ?_
                        rintro e w' ⟨rfl, hd', hs'⟩
                        exact ⟨_, rfl, rfl, JD.did2 hd' (hs0.trans hs') (by decide)⟩
                      · refine RStepJ.of rfl fun T W Ls hag hni hJ hdn hd => ?_
                        have d111 : T.getD 111 undef = _ := hd ⟨6, .data⟩ (by simp) rfl _ rfl
                        have d118 : T.getD 118 undef = _ := hd ⟨13, .data⟩ (by simp) rfl _ rfl
                        clear hag hd hdn
                        go_simp
                        exact ⟨_, rfl, rfl, hJ.add' 14 (by decide) (by decide)⟩
                      · refine RStepJ.of rfl fun T W Ls hag hni hJ hdn hd => ?_
                        have d119 : T.getD 119 undef = _ := hd ⟨14, .data⟩ (by simp) rfl _ rfl
                        clear hag hd hdn
                        go_simp
                        exact ⟨_, rfl, rfl, hJ.add' 15 (by decide) (by decide)⟩
                      · refine RStepJ.want rfl rfl rfl (by kernel_rfl) (fun v w h => h) fun T W Ls hag hni hJ hdn hd => ?_
                        have e15 : T.getD 15 undef = _ := (agree_at hag 15 (by kernel_rfl)).trans rfl
                        clear hag hd hdn
                        go_simp
                        exact ⟨_, rfl, rfl, hJ.add' 16 (by decide) (by decide)⟩
                      · refine RStepJ.want rfl rfl rfl (by kernel_rfl) (fun v w h => h) fun T W Ls hag hni hJ hdn hd => ?_
                        have e14 : T.getD 14 undef = _ := (agree_at hag 14 (by kernel_rfl)).trans rfl
                        clear hag hd hdn
                        go_simp
                        exact ⟨_, rfl, rfl, hJ.add' 17 (by decide) (by decide)⟩
                      · refine RStepJ.want rfl rfl rfl (by kernel_rfl) (fun v w h => h) fun T W Ls hag hni hJ hdn hd => ?_
                        have d121 : T.getD 121 undef = _ := hd ⟨16, .data⟩ (by simp) rfl _ rfl
                        have d122 : T.getD 122 undef = _ := hd ⟨17, .data⟩ (by simp) rfl _ rfl
                        have hc := intact_any Ab bb cb gx Cx W (by have := HBB.out.2; omega) HBB.out.1 (HBY.out W hJ.1.bel hJ.2) ((hJ.2.blk gx (Or.inr (Or.inl rfl))).trans HROOM.out.1) HROOM.out.2
                        rw [HNB.out] at hc
                        clear hag hd hdn
                        go_simp
                        refine hc.mono ?_
                        rintro e w' ⟨rfl, rfl⟩
                        exact ⟨_, rfl, rfl, hJ.add' 18 (by decide) (by decide)⟩
                      · refine RStepJ.want rfl rfl rfl (by kernel_rfl) (fun v w h => h) fun T W Ls hag hni hJ hdn hd => ?_
                        have d123 : T.getD 123 undef = _ := hd ⟨18, .data⟩ (by simp) rfl _ rfl
                        clear hag hd hdn
                        go_simp
                        exact ⟨_, rfl, rfl, hJ.add' 19 (by decide) (by decide)⟩
                      · refine RLastJ.of rfl fun T W Ls hag hall hni hJ hd => ?_
                        have d120 : T.getD 120 undef = _ := hd 15 _ (by simp) rfl
                        have d124 : T.getD 124 undef = _ := hd 19 _ (by simp) rfl
                        have hfin := hJ.both (hall 6 (by decide)) (hall 13 (by decide))
                        have HFIN := Lib.hid hfin
                        obtain ⟨f, hf, hT⟩ := agree_fn hag
                        have h120 := (hf 120).trans d120
                        have h124 := (hf 124).trans d124
                        clear hag hd d120 d124 hf hJ hall hfin
                        rw [hT]
                        clear hT
                        simp only [List.filterMap_cons, List.filterMap_nil, List.foldl_cons, List.foldl_nil, List.setIfInBounds_toArray, List.set_cons_succ, List.set_cons_zero, h120, h124]
                        go_wp2_with fail
                        go_meet
                        case rel => exact ⟨q, _, rfl, HFIN.out.1.below (Below.refl _ _) (fun k hk => Or.inl (Or.inl hk)), Nat.le_trans (write_done m d.r d.i bb) (by have := HDNK.out; omega), HDB6.out.same HFIN.out.2 (Or.inl rfl)⟩
                    · have HBYT : Hid (∀ W', Below w.heap.size w W' → Same (fun x => x = g) w5 W' → Byt W' (some ⟨g, 0, none⟩) (fullV d.b)) := Lib.hid (fun W' h1 h2 => (show Blk64 W' g (fullV d.b) from (h2.blk g rfl).trans HBLK.out).byt)
                      have hout := out_any (some ⟨g, 0, none⟩) (fullV d.b) 64 w5 (by rw [HFOK.out.1]; omega) HFOK.out.2 (HBYT.out w5 HD5.out.bel ⟨fun k _ => rfl, Nat.le_refl _⟩)
                      have HBB : Hid (AllB (fullV d.b) ∧ (fullV d.b).length ≤ 100) := Lib.hid ⟨HFOK.out.2, by rw [HFOK.out.1]; omega⟩
                      have hl64 := HFOK.out.1
                      have HOUT : Hid (Calls Try.prog 23 #[.slice (some ⟨g, 0, none⟩) 64 64] w5 fun e w' => ∃ gx C, e = .returned (.slice (some ⟨gx, 0, none⟩) 64 (64 + 7)) ∧ w5.heap.size ≤ gx ∧ w'.heap[gx]? = some (.cells C 5 (0, 0)) ∧ RoomC C (fullV d.b).length (fullV d.b) ((fullV d.b).length + 7) (fullV d.b).length ∧ Below w5.heap.size w5 w') := by
                        have h := hout
                        rw [hl64] at h ⊢
                        exact Lib.hid h
                      clear hout hl64
                      generalize fullV d.b = bb at *
                      go_wp2_with fail
                      refine (HOUT.out).mono ?_
                      rintro e w6 ⟨gx, Cx, rfl, hgx, hxb, hroom, hb6⟩
                      have HROOM := Lib.hid (And.intro hxb hroom)
                      have HDB6 := Lib.hid (HDB5.out.keep hb6)
                      have hgl := room_lt hxb
                      have hd6 := HD5.out.below (P' := fun x => x = gd ∨ x = gx ∨ x = g) hb6 (fun x hx => by
                        rcases hx with hx | hx | hx
                        · exact Or.inl (Or.inl hx)
                        · exact Or.inr (by omega)
                        · exact Or.inl (Or.inr hx))
                      have HD6 := Lib.hid hd6
                      have HBY : Hid (∀ W', Below w.heap.size w W' → Same (fun x => x = gd ∨ x = gx ∨ x = g) w6 W' → Byt W' (some ⟨g, 0, none⟩) bb) := Lib.hid (fun W' h1 h2 => HBYT.out W' h1 (⟨fun k hk => (h2.blk k (Or.inr (Or.inr hk))).trans (hb6.block k (by rw [hk]; exact HGL.out)), Nat.le_trans hb6.size h2.size⟩))
                      clear hgx hxb hroom hb6 hgl hd6 HOUT
                      go_upto_region 25 with fail
                      have hJ0 : JD w w6 (fun x => x = gd ∨ x = gx ∨ x = g) q hh m (m.doWrite d.r d.i bb) 6 13 (fun _ => false) w6.drew := JD.start HD6.out
                      have HNB : Hid (bb.length = 64) := Lib.hid HFOK.out.1
                      refine wp_region_rgj (VB25 q hh gd d.r d.i (okWrite m d.r d.i bb) (.slice (some ⟨gx, 0, none⟩) 64 71) (.slice (some ⟨g, 0, none⟩) 64 64)) (JD w w6 (fun x => x = gd ∨ x = gx ∨ x = g) q hh m (m.doWrite d.r d.i bb) 6 13) (fun _ _ _ => True) (by kernel_rfl) (by kernel_rfl) (fun i j v w w' _ h _ => h) hJ0 ?_
                      clear hJ0
                      simp only [RAll]
                      refine ⟨?_, ?_, ?_, ?_, ?_, ?_, ?_, ?_, ?_, ?_, ?_, ?_, ?_, ?_, ?_, ?_, ?_, ?_, ?_, ?_, ?_⟩
                      · refine RStepJ.of rfl fun T W Ls hag hni hJ hdn hd => ?_
                        have e6 : T.getD 6 undef = _ := (agree_at hag 6 (by kernel_rfl)).trans rfl
                        clear hag hd hdn
                        go_simp
                        exact ⟨_, rfl, rfl, hJ.add' 0 (by decide) (by decide)⟩
                      · refine RStepJ.of rfl fun T W Ls hag hni hJ hdn hd => ?_
                        have e11 : T.getD 11 undef = _ := (agree_at hag 11 (by kernel_rfl)).trans rfl
                        clear hag hd hdn
                        go_simp
                        exact ⟨_, rfl, rfl, hJ.add' 1 (by decide) (by decide)⟩
                      · refine RStepJ.of rfl fun T W Ls hag hni hJ hdn hd => ?_
                        have d106 : T.getD 106 undef = _ := hd ⟨1, .data⟩ (by simp) rfl _ rfl
                        have fct0 := (HDB6.out.same hJ.2 (Or.inl rfl)).c1
                        clear hag hd hdn
                        go_simp
                        exact ⟨_, rfl, rfl, hJ.add' 2 (by decide) (by decide)⟩
                      · refine RStepJ.of rfl fun T W Ls hag hni hJ hdn hd => ?_
                        have e11 : T.getD 11 undef = _ := (agree_at hag 11 (by kernel_rfl)).trans rfl
                        clear hag hd hdn
                        go_simp
                        exact ⟨_, rfl, rfl, hJ.add' 3 (by decide) (by decide)⟩
                      · refine RStepJ.of rfl fun T W Ls hag hni hJ hdn hd => ?_
                        have d108 : T.getD 108 undef = _ := hd ⟨3, .data⟩ (by simp) rfl _ rfl
                        have fct0 := (HDB6.out.same hJ.2 (Or.inl rfl)).c2
                        clear hag hd hdn
                        go_simp
                        exact ⟨_, rfl, rfl, hJ.add' 4 (by decide) (by decide)⟩
                      · refine RStepJ.of rfl fun T W Ls hag hni hJ hdn hd => ?_
                        have e15 : T.getD 15 undef = _ := (agree_at hag 15 (by kernel_rfl)).trans rfl
                        clear hag hd hdn
                        go_simp
                        exact ⟨_, rfl, rfl, hJ.add' 5 (by decide) (by decide)⟩
                      · refine RStepJ.of rfl fun T W Ls hag hni hJ hdn hd => ?_
                        have d105 : T.getD 105 undef = _ := hd ⟨0, .data⟩ (by simp) rfl _ rfl
                        have d107 : T.getD 107 undef = _ := hd ⟨2, .data⟩ (by simp) rfl _ rfl
                        have d109 : T.getD 109 undef = _ := hd ⟨4, .data⟩ (by simp) rfl _ rfl
                        have d110 : T.getD 110 undef = _ := hd ⟨5, .data⟩ (by simp) rfl _ rfl
                        have hc := (hJ.fst hni).1.write d.r d.i HOK.out.r HOK.out.i (some ⟨gx, 0, none⟩) bb (bb.length + 7) HBB.out.1 (HROOM.out.2.byt ((hJ.2.blk gx (Or.inr (Or.inl rfl))).trans HROOM.out.1)) (by have := HBB.out.2; omega) (by have := HDNK.out; omega)
                        have hs0 := hJ.2
                        rw [HNB.out] at hc
                        clear hag hd hdn
                        go_simp
                        refine hc.mono ?_
                        rintro e w' ⟨rfl, hd', hs'⟩
                        exact ⟨_, rfl, rfl, JD.did1 hd' (hs0.trans hs') (by decide)⟩
                      · refine RStepJ.of rfl fun T W Ls hag hni hJ hdn hd => ?_
                        have e8 : T.getD 8 undef = _ := (agree_at hag 8 (by kernel_rfl)).trans rfl
                        clear hag hd hdn
                        go_simp
                        exact ⟨_, rfl, rfl, hJ.add' 7 (by decide) (by decide)⟩
                      · refine RStepJ.of rfl fun T W Ls hag hni hJ hdn hd => ?_
                        have e11 : T.getD 11 undef = _ := (agree_at hag 11 (by kernel_rfl)).trans rfl
                        clear hag hd hdn
                        go_simp
                        exact ⟨_, rfl, rfl, hJ.add' 8 (by decide) (by decide)⟩
                      · refine RStepJ.of rfl fun T W Ls hag hni hJ hdn hd => ?_
                        have d113 : T.getD 113 undef = _ := hd ⟨8, .data⟩ (by simp) rfl _ rfl
                        have fct0 := (HDB6.out.same hJ.2 (Or.inl rfl)).c1
                        clear hag hd hdn
                        go_simp
                        exact ⟨_, rfl, rfl, hJ.add' 9 (by decide) (by decide)⟩
                      · refine RStepJ.of rfl fun T W Ls hag hni hJ hdn hd => ?_
                        have e11 : T.getD 11 undef = _ := (agree_at hag 11 (by kernel_rfl)).trans rfl
                        clear hag hd hdn
                        go_simp
                        exact ⟨_, rfl, rfl, hJ.add' 10 (by decide) (by decide)⟩
                      · refine RStepJ.of rfl fun T W Ls hag hni hJ hdn hd => ?_
                        have d115 : T.getD 115 undef = _ := hd ⟨10, .data⟩ (by simp) rfl _ rfl
                        have fct0 := (HDB6.out.same hJ.2 (Or.inl rfl)).c2
                        clear hag hd hdn
                        go_simp
                        exact ⟨_, rfl, rfl, hJ.add' 11 (by decide) (by decide)⟩
                      · refine RStepJ.of rfl fun T W Ls hag hni hJ hdn hd => ?_
                        have e14 : T.getD 14 undef = _ := (agree_at hag 14 (by kernel_rfl)).trans rfl
                        clear hag hd hdn
                        go_simp
                        exact ⟨_, rfl, rfl, hJ.add' 12 (by decide) (by decide)⟩
                      · refine RStepJ.of rfl fun T W Ls hag hni hJ hdn hd => ?_
                        have d112 : T.getD 112 undef = _ := hd ⟨7, .data⟩ (by simp) rfl _ rfl
                        have d114 : T.getD 114 undef = _ := hd ⟨9, .data⟩ (by simp) rfl _ rfl
                        have d116 : T.getD 116 undef = _ := hd ⟨11, .data⟩ (by simp) rfl _ rfl
                        have d117 : T.getD 117 undef = _ := hd ⟨12, .data⟩ (by simp) rfl _ rfl
                        have hc := (hJ.snd hni).1.rwrite d.r d.i HOK.out.r HOK.out.i (some ⟨g, 0, none⟩) bb 64 HBB.out.1 ((hJ.snd hni).1.bytF hJ.2 HBY.out) (by have := HBB.out.2; omega) (by have := HDNK.out; omega)
                        have hs0 := hJ.2
                        rw [HNB.out] at hc
                        clear hag hd hdn
                        go_simp
                        refine hc.mono ?_
                        rintro e w' ⟨rfl, hd', hs'⟩
                        exact ⟨_, rfl, rfl, JD.did2 hd' (hs0.trans hs') (by decide)⟩
                      · refine RStepJ.of rfl fun T W Ls hag hni hJ hdn hd => ?_
                        have d111 : T.getD 111 undef = _ := hd ⟨6, .data⟩ (by simp) rfl _ rfl
                        have d118 : T.getD 118 undef = _ := hd ⟨13, .data⟩ (by simp) rfl _ rfl
                        clear hag hd hdn
                        go_simp
                        exact ⟨_, rfl, rfl, hJ.add' 14 (by decide) (by decide)⟩
                      · refine RStepJ.of rfl fun T W Ls hag hni hJ hdn hd => ?_
                        have d119 : T.getD 119 undef = _ := hd ⟨14, .data⟩ (by simp) rfl _ rfl
                        clear hag hd hdn
                        go_simp
                        exact ⟨_, rfl, rfl, hJ.add' 15 (by decide) (by decide)⟩
                      · refine RStepJ.want rfl rfl rfl (by kernel_rfl) (fun v w h => h) fun T W Ls hag hni hJ hdn hd => ?_
                        have e15 : T.getD 15 undef = _ := (agree_at hag 15 (by kernel_rfl)).trans rfl
                        clear hag hd hdn
                        go_simp
                        exact ⟨_, rfl, rfl, hJ.add' 16 (by decide) (by decide)⟩
                      · refine RStepJ.want rfl rfl rfl (by kernel_rfl) (fun v w h => h) fun T W Ls hag hni hJ hdn hd => ?_
                        have e14 : T.getD 14 undef = _ := (agree_at hag 14 (by kernel_rfl)).trans rfl
                        clear hag hd hdn
                        go_simp
                        exact ⟨_, rfl, rfl, hJ.add' 17 (by decide) (by decide)⟩
                      · refine RStepJ.want rfl rfl rfl (by kernel_rfl) (fun v w h => h) fun T W Ls hag hni hJ hdn hd => ?_
                        have d121 : T.getD 121 undef = _ := hd ⟨16, .data⟩ (by simp) rfl _ rfl
                        have d122 : T.getD 122 undef = _ := hd ⟨17, .data⟩ (by simp) rfl _ rfl
                        have hc := intact_any (some ⟨g, 0, none⟩) bb 64 gx Cx W (by have := HBB.out.2; omega) HBB.out.1 (HBY.out W hJ.1.bel hJ.2) ((hJ.2.blk gx (Or.inr (Or.inl rfl))).trans HROOM.out.1) HROOM.out.2
                        rw [HNB.out] at hc
                        clear hag hd hdn
                        go_simp
                        refine hc.mono ?_
                        rintro e w' ⟨rfl, rfl⟩
                        exact ⟨_, rfl, rfl, hJ.add' 18 (by decide) (by decide)⟩
                      · refine RStepJ.want rfl rfl rfl (by kernel_rfl) (fun v w h => h) fun T W Ls hag hni hJ hdn hd => ?_
                        have d123 : T.getD 123 undef = _ := hd ⟨18, .data⟩ (by simp) rfl _ rfl
                        clear hag hd hdn
                        go_simp
                        exact ⟨_, rfl, rfl, hJ.add' 19 (by decide) (by decide)⟩
                      · refine RLastJ.of rfl fun T W Ls hag hall hni hJ hd => ?_
                        have d120 : T.getD 120 undef = _ := hd 15 _ (by simp) rfl
                        have d124 : T.getD 124 undef = _ := hd 19 _ (by simp) rfl
                        have hfin := hJ.both (hall 6 (by decide)) (hall 13 (by decide))
                        have HFIN := Lib.hid hfin
                        obtain ⟨f, hf, hT⟩ := agree_fn hag
                        have h120 := (hf 120).trans d120
                        have h124 := (hf 124).trans d124
                        clear hag hd d120 d124 hf hJ hall hfin
                        rw [hT]
                        clear hT
                        simp only [List.filterMap_cons, List.filterMap_nil, List.foldl_cons, List.foldl_nil, List.setIfInBounds_toArray, List.set_cons_succ, List.set_cons_zero, h120, h124]
                        go_wp2_with fail
                        go_meet
                        case rel => exact ⟨q, _, rfl, HFIN.out.1.below (Below.refl _ _) (fun k hk => Or.inl (Or.inl hk)), Nat.le_trans (write_done m d.r d.i bb) (by have := HDNK.out; omega), HDB6.out.same HFIN.out.2 (Or.inl rfl)⟩
                case rest =>
                obtain ⟨q', m', rfl, hdr, hdn, hdb⟩ := hcut
                obtain ⟨w5, rfl⟩ : ∃ w5, w5 = wc := ⟨wc, rfl⟩
                have HD5 := Lib.hid hdr
                have HDN5 := Lib.hid hdn
                have HDB5 := Lib.hid hdb
                have HRD := Lib.hid (hdr.read d.r d.i HOK.out.r HOK.out.i)
                have c1 := hdb.c1
                have c2 := hdb.c2
                clear hdr hdn hdb HR4 HDB HDNK
                go_wp2_with fail
                refine HRD.out.mono ?_
                rintro e w6 ⟨⟨v, rfl, hans⟩, hb6⟩
                have HDB6 := Lib.hid (HDB5.out.keep hb6)
                have hd6 := HD5.out.below (P' := fun x => x = gd) hb6 (fun k hk => Or.inl hk)
                have HRR := Lib.hid (hd6.rread d.r d.i HOK.out.r HOK.out.i)
                have HD6 := Lib.hid hd6
                have c1 := HDB6.out.c1
                have c2 := HDB6.out.c2
                clear hd6 hb6 HRD
                rcases hans with ⟨hf, rfl⟩ | ⟨hf, q5, b, hbk, hbo, rfl, _, hq5⟩
                · go_wp2_with fail
                  refine HRR.out.mono ?_
                  rintro e w7 ⟨⟨v2, rfl, hans2⟩, hb7⟩
                  have HD7 := Lib.hid (HD6.out.below (P' := fun x => False) hb7 (fun k hk => hk.elim))
                  clear hb7 HRR c1 c2
                  rcases hans2 with ⟨_, rfl⟩ | ⟨hf2, _⟩
                  · have cv1 : (convert 31 9 (.slice none 0 0)).run Try.prog w7 = .ok (.string (strOfNums [])) w7 := conv_any (A := none) (xs := []) (n := 0) (c := 0) (fun i x h => by cases h) rfl
                    go_wp2_with fail
                    go_roundw
                    case rel => exact ⟨k + 1, q', m', rfl, by go_num, by omega, HD7.out, HDN5.out⟩
                    case measure => simp [intOf]; omega
                  · rw [hf] at hf2; cases hf2
                · have HQ5 := Lib.hid hq5
                  have HBO := Lib.hid hbo
                  have HBK := Lib.hid hbk
                  have HFF := Lib.hid hf
                  clear hq5 hbo hbk hf
                  go_wp2_with fail
                  refine HRR.out.mono ?_
                  rintro e w7 ⟨⟨v2, rfl, hans2⟩, hb7⟩
                  have HD7 := Lib.hid (HD6.out.below (P' := fun x => False) hb7 (fun k hk => hk.elim))
                  have hq7 := (hb7.block _ (room_lt HQ5.out)).trans HQ5.out
                  clear hb7 HRR c1 c2
                  rcases hans2 with ⟨hf2, _⟩ | ⟨_, g2, c9, b2, hbk2, _, rfl, hby2⟩
                  · rw [HFF.out] at hf2; cases hf2
                  · have hbb : b2 = b := by have h := hbk2.symm.trans HBK.out; injection h
                    subst hbb
                    have cv1 : (convert 31 9 (.slice (some ⟨q5, 0, none⟩) 64 64)).run Try.prog w7 = .ok (.string (strOfNums b2)) w7 := conv_any (byt_blk hq7 (by simp)) HBO.out.1
                    have cv2 : (convert 31 9 (.slice (some ⟨g2, 0, none⟩) 64 c9)).run Try.prog w7 = .ok (.string (strOfNums b2)) w7 := conv_any hby2 HBO.out.1
                    clear hq7 hbk2 hby2 HBK HBO HQ5 HFF
                    generalize strOfNums b2 = sb at *
                    go_wp2_with fail
                    go_roundw
                    case rel => exact ⟨k + 1, q', m', rfl, by go_num, by omega, HD7.out, HDN5.out⟩
                    case measure => simp [intOf]; omega
              · obtain rfl : k = n1 := by omega
                have HAL := Lib.hid (alike_any HR.out (by have := HDNK.out; omega))
                clear hlt
                go_wp2_with fail
                refine HAL.out.mono ?_
                rintro e W4 ⟨rfl, hb4⟩
                go_wp2_with fail
                go_ret
                exact ⟨rfl, keepB HR.out.bel hb4⟩


end Go.Proofs.Ytocmjbfbjiinhaa.devAll
