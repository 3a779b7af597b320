/- What is taken of what was put: plain. -/
import Derived.Test.YtflldlhfeiamnaaEa
namespace Go.Proofs.Ytflldlhfeiamnaa
open Go.ChangeShapes Go.WideShapes Go.ChangeAt Go.RowKit
set_option linter.unusedVariables false
/-! Sealed blocks. -/
def Sealed (b : List Int) : Prop := b.length = 64 ∧ b.drop 60 = be (sumV (b.take 60)) 4
theorem sumd_take {xs : List Int} (h : xs.length ≤ 60) : (sumd xs).take 60 = fillB xs := by unfold sumd; rw [← fillB_length h]; exact List.take_left
theorem sumd_drop {xs : List Int} (h : xs.length ≤ 60) : (sumd xs).drop 60 = be (sumV (fillB xs)) 4 := by unfold sumd; rw [← fillB_length h]; exact List.drop_left
theorem sumd_sealed {xs : List Int} (h : xs.length ≤ 60) : Sealed (sumd xs) := ⟨sumd_length h, by rw [sumd_take h, sumd_drop h]⟩
theorem turned_not {b : List Int} {i : Nat} {x y : Int} (h : Sealed b) (hB : AllB b) (hx : b[i]? = some x) (hy : 0 ≤ y ∧ y < 256) (hne : y ≠ x) : ¬ Sealed (b.set i y) := by
  rintro ⟨_, h2⟩
  have hi : i < 64 := by rw [← h.1]; exact (List.getElem?_eq_some_iff.1 hx).1
  have hxb := hB x (List.mem_of_getElem? hx)
  by_cases h60 : i < 60
  · have hx' : (b.take 60)[i]? = some x := by rw [List.getElem?_take, if_pos h60]; exact hx
    rw [List.drop_set_of_lt h60, h.2, List.take_set] at h2
    exact hne ((turn_iff hx' hxb hy).1 (be4_inj (sumV_lt _) (sumV_lt _) h2.symm))
  · have e : (b.set i y).take 60 = b.take 60 := by
      rw [List.take_set]; exact List.set_eq_of_length_le (by rw [List.length_take, h.1]; omega)
    rw [e, ← h.2] at h2
    have := congrArg (fun z : List Int => z[i - 60]?) h2
    simp only [List.getElem?_drop] at this
    rw [show 60 + (i - 60) = i by omega, hx, List.getElem?_set_self (by rw [h.1]; exact hi)] at this
    injection this with this
    exact hne this
/-! A record's parts. -/
theorem sumd_pre {xs ys : List Int} (h : xs.length ≤ 60) (h' : ys.length ≤ 60) (hl : xs.length = ys.length) (e : sumd xs = sumd ys) : xs = ys := by
  have h1 := congrArg (List.take 60) e
  rw [sumd_take h, sumd_take h'] at h1
  have h2 := congrArg (List.take xs.length) h1
  unfold fillB at h2
  rw [List.take_left, hl, List.take_left] at h2
  exact h2
theorem front_inj {lb lb' : Int} {e e' s s' n n' : Nat} (he : e < 4294967296) (he' : e' < 4294967296) (hs : s < 4294967296) (hs' : s' < 4294967296) (h : front lb e s n = front lb' e' s' n') : lb = lb' ∧ e = e' ∧ s = s' := by
  refine ⟨?_, ?_, ?_⟩
  · have := congrArg (fun z : List Int => z.getD 1 0) h; exact this
  · exact be4_inj he he' (by have := congrArg (fun z : List Int => (z.drop 2).take 4) h; exact this)
  · exact be4_inj hs hs' (by have := congrArg (fun z : List Int => (z.drop 6).take 4) h; exact this)
theorem told_drop : ∀ {l : List Wr} {i : Nat} {x : Wr}, l[i]? = some x → (told l).drop (3 * i) = be x.t.toNat 2 ++ [x.k] ++ told (l.drop (i + 1))
  | [], i, x, h => by cases h
  | y :: l, 0, x, h => by injection h with h; subst h; rfl
  | y :: l, i + 1, x, h => by
    have h1 := told_drop (l := l) (i := i) h
    show ((be y.t.toNat 2 ++ [y.k]) ++ told l).drop (3 * (i + 1)) = _
    rw [List.drop_append, List.drop_of_length_le (by simp [be_length]; omega), List.nil_append]
    rw [show 3 * (i + 1) - (be y.t.toNat 2 ++ [y.k]).length = 3 * i by simp [be_length]; omega]
    exact h1
section
variable {lb : Int} {e s : Nat} {l : List Wr} {rest : List (List Int)}
theorem put_head (hm : MayL l) : (putL lb e s l ++ rest).headD [] = sumd (headR lb e s l) := rfl
theorem head_len (hm : MayL l) : (headR lb e s l).length ≤ 60 := by rw [headR_length]; have := hm.1.2; omega
theorem head_at (hm : MayL l) {j : Nat} (hj : j < 11 + 3 * l.length) : (sumd (headR lb e s l))[j]? = (headR lb e s l)[j]? := by
  unfold sumd fillB
  rw [List.append_assoc, List.getElem?_append_left (by rw [headR_length]; exact hj)]
theorem cnt_put (hm : MayL l) : cnt (putL lb e s l ++ rest) = l.length := by
  unfold cnt
  rw [put_head hm, List.getD_eq_getElem?_getD, head_at hm (by omega)]
  unfold headR
  rw [List.getElem?_append_left (by rw [front_length]; omega)]
  show ((front lb e s l.length)[10]?.getD 0).toNat = _
  show ((l.length : Int)).toNat = _
  simp
theorem can_put (hm : MayL l) : CanRead (putL lb e s l ++ rest) :=
  ⟨by rw [put_head hm]; exact sumd_length (head_len hm), by rw [cnt_put hm]; exact hm.1.2, by rw [cnt_put hm, List.length_append, putL_length]; omega⟩
theorem put_at {i : Nat} {x : Wr} (hx : l[i]? = some x) : (putL lb e s l ++ rest)[1 + i]? = some (sumd (bearB e s x.bs)) := by
  have hlt := (List.getElem?_eq_some_iff.1 hx).1
  rw [List.getElem?_append_left (by rw [putL_length]; omega)]
  unfold putL
  rw [Nat.add_comm, List.getElem?_cons_succ, List.getElem?_map, hx]; rfl
theorem pad_bear {bs : List Int} (h : bs.length = 56) : padB (sumd (bearB e s bs)) = bs := by
  have hl : (bearB e s bs).length = 60 := bearB_length h
  unfold padB
  rw [sumd_length (by omega)]
  have h1 : (sumd (bearB e s bs)).take 56 = bs := by
    have : (sumd (bearB e s bs)).take 56 = ((sumd (bearB e s bs)).take 60).take 56 := by rw [List.take_take]; rfl
    rw [this, sumd_take (by omega)]
    unfold fillB bearB
    rw [List.append_assoc, List.append_assoc, ← h]
    exact List.take_left
  rw [h1]; simp
theorem wAt_put (hm : MayL l) (hok : WrsOk l) {i : Nat} {x : Wr} (hx : l[i]? = some x) : wAt (putL lb e s l ++ rest) i = x := by
  have hlt := (List.getElem?_eq_some_iff.1 hx).1
  have hxm := hm.2.1 x (List.mem_of_getElem? hx)
  have hd : (sumd (headR lb e s l)).drop (11 + 3 * i) = be x.t.toNat 2 ++ [x.k] ++ (told (l.drop (i + 1)) ++ (List.replicate (60 - (headR lb e s l).length) 0 ++ be (sumV (fillB (headR lb e s l))) 4)) := by
    unfold sumd fillB
    rw [List.append_assoc]
    have h0 : ∀ tl : List Int, (headR lb e s l ++ tl).drop (11 + 3 * i) = be x.t.toNat 2 ++ [x.k] ++ told (l.drop (i + 1)) ++ tl := fun tl => by
      unfold headR
      rw [← told_drop hx, List.append_assoc, ← List.drop_drop, ← front_length lb e s l.length, List.drop_left, List.drop_append_of_le_length (by rw [told_length]; omega)]
    rw [h0, List.append_assoc]
  unfold wAt
  rw [put_head hm, hd]
  have e1 : numV ((be x.t.toNat 2 ++ [x.k] ++ (told (l.drop (i + 1)) ++ (List.replicate (60 - (headR lb e s l).length) 0 ++ be (sumV (fillB (headR lb e s l))) 4))).take 2) = x.t.toNat := by
    rw [List.append_assoc]
    have : ∀ tl : List Int, (be x.t.toNat 2 ++ tl).take 2 = be x.t.toNat 2 := fun tl => by
      have h2 := be_length x.t.toNat 2
      rw [← h2]; simp [be_length]
    rw [this]
    exact numV_be 2 _ (by have := hxm.2; omega)
  have e2 : (sumd (headR lb e s l)).getD (13 + 3 * i) 0 = x.k := by
    have h3 : (sumd (headR lb e s l))[11 + 3 * i + 2]? = some x.k := by
      rw [← List.getElem?_drop, hd]; rfl
    rw [List.getD, show 13 + 3 * i = 11 + 3 * i + 2 by omega, h3]; rfl
  have e3 : padB ((putL lb e s l ++ rest).getD (1 + i) []) = x.bs := by
    rw [List.getD_eq_getElem?_getD, put_at hx]; exact pad_bear (hok x (List.mem_of_getElem? hx)).len
  rw [e1, e2, e3]
  have : ((x.t.toNat : Nat) : Int) = x.t := by have := hxm.2; omega
  rw [this]
theorem readW_put (hm : MayL l) (hok : WrsOk l) : readW (putL lb e s l ++ rest) l.length = l := by
  apply List.ext_getElem?
  intro i
  unfold readW
  rw [List.getElem?_map]
  by_cases hi : i < l.length
  · obtain ⟨x, hx⟩ : ∃ x, l[i]? = some x := ⟨_, List.getElem?_eq_getElem hi⟩
    rw [List.getElem?_range hi, hx]
    show some (wAt _ i) = some x
    rw [wAt_put hm hok hx]
  · rw [List.getElem?_eq_none (by simp; omega), List.getElem?_eq_none (by omega)]; rfl
theorem put_take : (putL lb e s l ++ rest).take (1 + l.length) = putL lb e s l := by rw [← putL_length lb e s l]; exact List.take_left
/-- What was put is taken as that alone. -/
theorem taken_put {lb' : Int} {e' s' : Nat} (hm : MayL l) (hok : WrsOk l) (he : e < 4294967296) (he' : e' < 4294967296) (hs : s < 4294967296) (hs' : s' < 4294967296) : Taken lb' e' s' (putL lb e s l ++ rest) ↔ lb' = lb ∧ e' = e ∧ s' = s := by
  unfold Taken
  rw [cnt_put hm, readW_put hm hok, put_take]
  constructor
  · rintro ⟨_, _, h⟩
    unfold putL at h
    injection h with h1 _
    have h2 := sumd_pre (head_len hm) (head_len hm) (by rw [headR_length, headR_length]) h1
    unfold headR at h2
    exact front_inj he' he hs' hs (List.append_inj h2 (by rw [front_length, front_length])).1
  · rintro ⟨rfl, rfl, rfl⟩
    exact ⟨can_put hm, hm, rfl⟩
theorem takeV_put (hm : MayL l) (hok : WrsOk l) (he : e < 4294967296) (hs : s < 4294967296) : takeV lb e s (putL lb e s l ++ rest) = l ∧ takeN lb e s (putL lb e s l ++ rest) = 1 + l.length := by
  have h := (taken_put (lb' := lb) (rest := rest) hm hok he he hs hs).2 ⟨rfl, rfl, rfl⟩
  unfold takeV takeN
  rw [if_pos h, if_pos h, cnt_put hm, readW_put hm hok]; exact ⟨rfl, rfl⟩
/-- Of what is taken all is sealed. -/
theorem taken_sealed {log : List (List Int)} (h : Taken lb e s log) {i : Nat} {b : List Int} (hi : i ≤ cnt log) (hb : log[i]? = some b) : Sealed b := by
  obtain ⟨hc, hm, hp⟩ := h
  have hlen : (readW log (cnt log)).length = cnt log := readW_length _ _
  have h1 : (log.take (1 + cnt log))[i]? = some b := by rw [List.getElem?_take, if_pos (by omega)]; exact hb
  rw [← hp] at h1
  unfold putL at h1
  cases i with
  | zero => injection h1 with h1; rw [← h1]; exact sumd_sealed (by rw [headR_length, hlen]; have := hc.2.1; omega)
  | succ i =>
    rw [List.getElem?_cons_succ, List.getElem?_map] at h1
    obtain ⟨x, hx, rfl⟩ := Option.map_eq_some_iff.1 h1
    refine sumd_sealed ?_
    have : x.bs.length = 56 := by
      have hx' := List.mem_of_getElem? hx
      unfold readW at hx'
      obtain ⟨j, _, rfl⟩ := List.mem_map.1 hx'
      exact padB_length _
    rw [bearB_length this]; omega
theorem putL_sealed (hm : MayL l) (hok : WrsOk l) {i : Nat} {b : List Int} (hb : (putL lb e s l)[i]? = some b) : Sealed b := by
  unfold putL at hb
  cases i with
  | zero => injection hb with hb; rw [← hb]; exact sumd_sealed (head_len hm)
  | succ i =>
    rw [List.getElem?_cons_succ, List.getElem?_map] at hb
    obtain ⟨x, hx, rfl⟩ := Option.map_eq_some_iff.1 hb
    exact sumd_sealed (by rw [bearB_length (hok x (List.mem_of_getElem? hx)).len]; omega)
/-- A block that is not sealed, at or behind the head: not taken. -/
theorem not_taken_set {lb' : Int} {e' s' : Nat} (hm : MayL l) {k : Nat} {c : List Int} (hk : k ≤ l.length) (hc : ¬ Sealed c) : ¬ Taken lb' e' s' ((putL lb e s l ++ rest).set k c) := by
  intro h
  have hl : k < (putL lb e s l ++ rest).length := by rw [List.length_append, putL_length]; omega
  refine hc (taken_sealed h (i := k) ?_ (List.getElem?_set_self hl))
  cases k with
  | zero => omega
  | succ k =>
    have : cnt ((putL lb e s l ++ rest).set (k + 1) c) = cnt (putL lb e s l ++ rest) := by
      unfold cnt; rfl
    rw [this, cnt_put hm]; exact hk
/-- Cut short: not taken. -/
theorem not_taken_short {lb' : Int} {e' s' : Nat} (hm : MayL l) : ¬ Taken lb' e' s' ((putL lb e s l).take l.length) := by
  intro h
  have h1 := h.1.2.2
  have hl : 1 ≤ l.length := hm.1.1
  have : cnt ((putL lb e s l).take l.length) = cnt (putL lb e s l ++ []) := by
    unfold cnt
    obtain ⟨n, hn⟩ : ∃ n, l.length = n + 1 := ⟨l.length - 1, by omega⟩
    rw [hn]; rfl
  rw [this, cnt_put hm, List.length_take] at h1
  omega
/-- An elder block behind a new head: not taken. -/
theorem not_taken_old {lb' : Int} {e1 e2 s1 s2 : Nat} (hm : MayL l) {i : Nat} {y : Wr} (hi : i < l.length) (hy : y.bs.length = 56) (hne : e1 % 65536 ≠ e2 % 65536) :
    ¬ Taken lb' e2 s2 ((putL lb e2 s l).set (1 + i) (sumd (bearB e1 s1 y.bs))) := by
  intro h
  have hl : 1 + i < (putL lb e2 s l).length := by rw [putL_length]; omega
  have hcnt : cnt ((putL lb e2 s l).set (1 + i) (sumd (bearB e1 s1 y.bs))) = l.length := by
    have : cnt ((putL lb e2 s l).set (1 + i) (sumd (bearB e1 s1 y.bs))) = cnt (putL lb e2 s l ++ []) := by
      rw [Nat.add_comm]; unfold cnt; rfl
    rw [this, cnt_put hm]
  have hp := h.2.2
  have h1 := congrArg (fun z : List (List Int) => z[1 + i]?) hp
  rw [hcnt, List.getElem?_take, if_pos (by omega), List.getElem?_set_self hl] at h1
  unfold putL at h1
  rw [Nat.add_comm, List.getElem?_cons_succ, List.getElem?_map] at h1
  obtain ⟨x, hx, hxe⟩ := Option.map_eq_some_iff.1 h1
  have hx56 : x.bs.length = 56 := by
    have hx' := List.mem_of_getElem? hx
    unfold readW at hx'
    obtain ⟨j, _, rfl⟩ := List.mem_map.1 hx'
    exact padB_length _
  have h2 := sumd_pre (by rw [bearB_length hx56]; omega) (by rw [bearB_length hy]; omega) (by rw [bearB_length hx56, bearB_length hy]) hxe
  unfold bearB at h2
  rw [List.append_assoc, List.append_assoc] at h2
  have h3 := (List.append_inj (List.append_inj h2 (by rw [hx56, hy])).2 (by rw [be_length, be_length])).1
  rw [be2_eq, be2_eq] at h3
  injection h3 with h4 h5
  injection h5 with h5 _
  apply hne
  omega
end
end Go.Proofs.Ytflldlhfeiamnaa
