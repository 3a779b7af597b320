/- Contract: conf.Below. -/
import Derived.Test.YtfmpbofhaoijpaaC8
import Derived.Test.YtfmpbofhaoijpaaC3
namespace Go.Proofs.Ytfmpbofhaoijpaa
open Go.ChangeShapes Go.WideShapes Go.ChangeAt Go.RowKit
open Go.Sort (swp insInner insOuter insertionSort)
set_option linter.unusedVariables false
def Is (l : List Int) : List Value := l.map (Value.int .i64)
theorem Is_one (l : List Int) : ∀ u ∈ Is l, u.oneCell' = true := by
  intro u hu; unfold Is at hu; obtain ⟨x, _, rfl⟩ := List.mem_map.1 hu; rfl
theorem info3 : (Try.prog.info? 3).map (fun i => (i.zero, i.size, i.bytes)) = some (some (.int .i64 0), 1, 8) := by kernel_rfl
def sees (cs : List Sh) (me i : Nat) : Bool := aboveV (labL cs me) (labC cs me) (labL cs i) (labC cs i)
def selTo (cs : List Sh) (me k : Nat) : List Int := ((List.range k).filter fun (i : Nat) => decide (i ≠ me) && sees cs me i).map Int.ofNat
theorem selTo_succ (cs : List Sh) (me k : Nat) : selTo cs me (k + 1) = selTo cs me k ++ (if (decide (k ≠ me) && sees cs me k) = true then [(k : Int)] else []) := by
  unfold selTo
  rw [List.range_succ, List.filter_append, List.map_append]
  congr 1
  rw [List.filter_cons]
  split <;> rfl
theorem selTo_me {cs : List Sh} {me k : Nat} (h : k = me) : selTo cs me (k + 1) = selTo cs me k := by
  rw [selTo_succ]; simp [h]
theorem selTo_yes {cs : List Sh} {me k : Nat} (h : k ≠ me) (g : sees cs me k = true) : selTo cs me (k + 1) = selTo cs me k ++ [(k : Int)] := by
  rw [selTo_succ]; simp [h, g]
theorem selTo_no {cs : List Sh} {me k : Nat} (h : k ≠ me) (g : sees cs me k = false) : selTo cs me (k + 1) = selTo cs me k := by
  rw [selTo_succ]; simp [h, g]
theorem selTo_len (cs : List Sh) (me : Nat) : ∀ k, (selTo cs me k).length + (if me < k then 1 else 0) ≤ k
  | 0 => by simp [selTo]
  | k + 1 => by
    have := selTo_len cs me k
    by_cases h : k = me
    · rw [selTo_me h, if_pos (by omega)]
      rw [if_neg (by omega)] at this
      omega
    · have hs : (selTo cs me (k + 1)).length ≤ (selTo cs me k).length + 1 := by
        rw [selTo_succ, List.length_append]; split <;> simp
      split at this <;> split <;> omega
theorem selTo_mem {cs : List Sh} {me k : Nat} {x : Int} (h : x ∈ selTo cs me k) : 0 ≤ x ∧ x < k ∧ x.toNat ≠ me ∧ sees cs me x.toNat = true := by
  unfold selTo at h
  obtain ⟨i, hi, rfl⟩ := List.mem_map.1 h
  obtain ⟨h1, h2⟩ := List.mem_filter.1 hi
  have := List.mem_range.1 h1
  simp only [Bool.and_eq_true, decide_eq_true_eq] at h2
  exact ⟨Int.natCast_nonneg i, by show (i : Int) < k; omega, by simpa using h2.1, by simpa using h2.2⟩
theorem selTo_nodup (cs : List Sh) (me k : Nat) : (selTo cs me k).Nodup := by
  unfold selTo
  refine List.Pairwise.map _ (fun a b h => ?_) ((List.nodup_range (n := k)).filter _)
  intro e; injection e with e; exact h e
/-- Who is below, told as it is to be told. -/
def BelowR (cs : List Sh) (me : Nat) (l : List Int) : Prop := ∃ t, l = (me : Int) :: t ∧ t.Perm (selTo cs me cs.length) ∧ t.Pairwise (fun x y => rk cs y < rk cs x)
theorem swo (cs : List Sh) : Go.Sort.SWO (ltB cs) where
  irrefl x := by unfold ltB; simp
  trans x y z h1 h2 := by unfold ltB at *; simp at *; omega
  ntrans x y z h1 h2 := by unfold ltB at *; simp at *; omega
theorem rk_inj {cs : List Sh} (hm : mayConfV cs = true) {x y : Int} (hx : InR cs x) (hy : InR cs y) (e : rk cs x = rk cs y) : x = y := by
  obtain ⟨s, hs⟩ : ∃ s, cs[x.toNat]? = some s := ⟨_, List.getElem?_eq_getElem (by have := hx.1; have := hx.2; omega)⟩
  obtain ⟨t, ht⟩ : ∃ s, cs[y.toNat]? = some s := ⟨_, List.getElem?_eq_getElem (by have := hy.1; have := hy.2; omega)⟩
  have h1 := (may_nums (may_at hm hs)).1
  have h2 := (may_nums (may_at hm ht)).1
  unfold rk at e
  rw [(lab_some hs).1, (lab_some hs).2, (lab_some ht).1, (lab_some ht).2] at e
  obtain ⟨e1, e2⟩ := rank_inj h1 h2 e
  have hok : ∀ k, k < cs.length → okAt cs k = true := fun k hk => by
    unfold mayConfV okV at hm
    simp only [Bool.and_eq_true, List.all_eq_true] at hm
    exact hm.2 k (List.mem_range.2 hk)
  have key : ∀ {i j : Nat} {u v : Sh}, cs[i]? = some u → cs[j]? = some v → u.l = v.l → u.c = v.c → ¬ i < j := fun {i j u v} hu hv hl hc hij => by
    have h := hok j (List.getElem?_eq_some_iff.1 hv).1
    rw [okAt_some hv, Bool.and_eq_true] at h
    have h' : (cs.take j).any (isV v.l v.c) = false := by simpa using h.2
    rw [List.any_eq_false] at h'
    exact h' u (List.mem_of_getElem? (i := i) (by rw [List.getElem?_take_of_lt hij]; exact hu)) (by unfold isV; simp [hl, hc])
  have n1 := key hs ht e1 e2
  have n2 := key ht hs e1.symm e2.symm
  have := hx.1
  have := hy.1
  omega
theorem desc_eq {cs : List Sh} : ∀ {l m : List Int}, l.Perm m → l.Pairwise (fun x y => rk cs y < rk cs x) → m.Pairwise (fun x y => rk cs y < rk cs x) → l = m
  | [], m, h, _, _ => (List.nil_perm.1 h).symm
  | a :: l, [], h, _, _ => absurd h.length_eq (by simp)
  | a :: l, b :: m, h, h1, h2 => by
    rw [List.pairwise_cons] at h1 h2
    have e : a = b := by
      have ha : a ∈ b :: m := h.mem_iff.1 (by simp)
      have hb : b ∈ a :: l := h.mem_iff.2 (by simp)
      rcases List.mem_cons.1 ha with e | ha
      · exact e
      · rcases List.mem_cons.1 hb with e | hb
        · exact e.symm
        · have := h1.1 b hb; have := h2.1 a ha; omega
    subst e
    rw [desc_eq (List.perm_cons a |>.1 h) h1.2 h2.2]
theorem BelowR.eq {cs : List Sh} {me : Nat} {l m : List Int} (h : BelowR cs me l) (g : BelowR cs me m) : l = m := by
  obtain ⟨t, rfl, h1, h2⟩ := h
  obtain ⟨u, rfl, g1, g2⟩ := g
  rw [desc_eq (h1.trans g1.symm) h2 g2]
/-- Sorted it is what is to be told. -/
theorem sorted_R {cs : List Sh} (hm : mayConfV cs = true) (me : Nat) (d : Array Int) (hd : d.toList = selTo cs me cs.length) : BelowR cs me ((me : Int) :: (insertionSort (ltB cs) d 0 d.size).toList) := by
  obtain ⟨⟨hs, _, hp⟩, hsort⟩ := Go.Sort.insertionSort_holds (swo cs) d 0 d.size (Nat.zero_le _) (Nat.le_refl _)
  generalize insertionSort (ltB cs) d 0 d.size = d' at *
  have hp' : d'.toList.Perm (selTo cs me cs.length) := by
    have e1 : (d'.extract 0 d.size).toList = d'.toList := by rw [← hs]; simp
    have e2 : (d.extract 0 d.size).toList = d.toList := by simp
    rw [e1, e2, hd] at hp; exact hp
  refine ⟨_, rfl, hp', ?_⟩
  have hnd : d'.toList.Nodup := hp'.nodup_iff.2 (selTo_nodup _ _ _)
  rw [List.pairwise_iff_getElem]
  intro i j hi hj hij
  have hi' : i < d'.size := by simpa using hi
  have hj' : j < d'.size := by simpa using hj
  have h := hsort i j (Nat.zero_le _) hij (by omega)
  unfold ltB at h
  rw [getElem!_pos d' i hi', getElem!_pos d' j hj'] at h
  have hge := of_decide_eq_false h
  have hin : ∀ k (hk : k < d'.size), InR cs d'[k] := fun k hk => by
    have := selTo_mem (hp'.mem_iff.1 (show d'[k] ∈ d'.toList by simp))
    exact ⟨this.1, this.2.1⟩
  have hne : d'[i] ≠ d'[j] := fun e => by
    have := (List.nodup_iff_pairwise_ne.1 hnd)
    rw [List.pairwise_iff_getElem] at this
    exact this i j hi hj hij (by simpa using e)
  have : rk cs d'[i] ≠ rk cs d'[j] := fun e => hne (rk_inj hm (hin i hi') (hin j hj') e)
  simp only [Array.getElem_toList]
  omega
end Go.Proofs.Ytfmpbofhaoijpaa
