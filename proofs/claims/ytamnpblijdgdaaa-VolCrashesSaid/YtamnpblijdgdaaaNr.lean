/- What a log is, block by block; what records make of blocks. Of no function. -/
import Derived.Test.YtamnpblijdgdaaaNq
namespace Go.Proofs.Ytamnpblijdgdaaa
open Go.ChangeShapes Go.WideShapes Go.ChangeAt Go.RowKit
set_option linter.unusedVariables false
set_option maxRecDepth 100000
/-! Which epoch a log's block is of. -/
def mk2 (b : List Int) : List Int := (b.drop 56).take 2
def z64b : List Int := List.replicate 64 0
theorem mk_take (b : List Int) : mk2 b = ((b.take 60).drop 56).take 2 := by
  unfold mk2
  rw [List.drop_take, List.take_take]; rfl
theorem mk_sumd {xs : List Int} (h : xs.length ≤ 60) : mk2 (sumd xs) = ((fillB xs).drop 56).take 2 := by rw [mk_take, sumd_take h]
theorem mk_head (e s : Nat) {l : List Wr} (hm : MayL l) : mk2 (sumd (headR 0 e s l)) = [0, 0] := by
  have hl : (headR 0 e s l).length ≤ 47 := by rw [headR_length]; have := hm.1.2; omega
  rw [mk_sumd (by omega)]
  unfold fillB
  rw [List.drop_append, List.drop_of_length_le (by omega), List.nil_append, List.drop_replicate, List.take_replicate]
  rw [show min 2 (60 - (headR 0 e s l).length - (56 - (headR 0 e s l).length)) = 2 by omega]; rfl
theorem mk_bear (e s : Nat) {bs : List Int} (h : bs.length = 56) : mk2 (sumd (bearB e s bs)) = be e 2 := by
  have hl : (bearB e s bs).length = 60 := bearB_length h
  rw [mk_sumd (by omega)]
  unfold fillB
  rw [hl, show 60 - 60 = 0 from rfl, List.replicate_zero, List.append_nil]
  unfold bearB
  rw [List.append_assoc, ← h, List.drop_left, List.take_append_of_le_length (by rw [be_length]; exact Nat.le_refl _), List.take_of_length_le (by rw [be_length]; exact Nat.le_refl _)]
theorem be2_zero {e : Nat} (h : e < 65536) (h0 : be e 2 = [0, 0]) : e = 0 := be2_inj h (by omega) (h0.trans rfl)
theorem head_ep {e e0 s s0 : Nat} {l l0 : List Wr} (hm : MayL l) (hm0 : MayL l0) (he : e < 4294967296) (he0 : e0 < 4294967296) (h : sumd (headR 0 e s l) = sumd (headR 0 e0 s0 l0)) : e = e0 := by
  have h1 : ∀ (e s : Nat) {l : List Wr}, MayL l → (((sumd (headR 0 e s l)).take 60).drop 2).take 4 = be e 4 := fun e s l hm => by
    have hl : (headR 0 e s l).length ≤ 60 := by rw [headR_length]; have := hm.1.2; omega
    rw [sumd_take hl]
    unfold fillB headR front
    simp only [List.append_assoc, List.cons_append, List.nil_append, List.drop_succ_cons, List.drop_zero]
    rw [List.take_append_of_le_length (by rw [be_length]; exact Nat.le_refl _), List.take_of_length_le (by rw [be_length]; exact Nat.le_refl _)]
  have h2 := congrArg (fun b : List Int => ((b.take 60).drop 2).take 4) h
  simp only [h1 e s hm, h1 e0 s0 hm0] at h2
  exact be4_inj he he0 h2
theorem head_first (e s : Nat) {l : List Wr} (hm : MayL l) : (sumd (headR 0 e s l))[0]? = some 72 := by
  rw [head_at hm (by omega)]; rfl
/-- A block of a log of that epoch. -/
def LogB (e : Nat) (b : List Int) : Prop := (∃ s l, MayL l ∧ b = sumd (headR 0 e s l)) ∨ ∃ s bs, bs.length = 56 ∧ b = sumd (bearB e s bs)
/-- One of an elder epoch, or of none. -/
def Old (e : Nat) (b : List Int) : Prop := b = z64b ∨ ∃ e0, 1 ≤ e0 ∧ e0 < e ∧ LogB e0 b
theorem Old.mono {e e' : Nat} {b : List Int} (h : Old e b) (he : e ≤ e') : Old e' b := by
  rcases h with h | ⟨e0, h1, h2, h3⟩
  · exact Or.inl h
  · exact Or.inr ⟨e0, h1, by omega, h3⟩
theorem LogB.old {e : Nat} {b : List Int} (h : LogB e b) (he : 1 ≤ e) : Old (e + 1) b := Or.inr ⟨e, he, by omega, h⟩
theorem Old.head {e s : Nat} {l : List Wr} (he : e < 65536) (hm : MayL l) (h : Old e (sumd (headR 0 e s l))) : False := by
  rcases h with h | ⟨e0, h1, h2, ⟨s0, l0, hm0, h3⟩ | ⟨s0, bs, h56, h3⟩⟩
  · have h4 := head_first e s hm
    rw [h] at h4; exact absurd h4 (by decide)
  · have := head_ep hm hm0 (by omega) (by omega) h3; omega
  · have h4 := congrArg mk2 h3
    rw [mk_head e s hm, mk_bear e0 s0 h56] at h4
    have := be2_zero (by omega) h4.symm; omega
theorem Old.bear {e s : Nat} {bs : List Int} (he0 : 1 ≤ e) (he : e < 65536) (hb : bs.length = 56) (h : Old e (sumd (bearB e s bs))) : False := by
  rcases h with h | ⟨e0, h1, h2, ⟨s0, l0, hm0, h3⟩ | ⟨s0, bs0, h56, h3⟩⟩
  · have h4 := congrArg mk2 h
    rw [mk_bear e s hb] at h4
    have := be2_zero he (h4.trans (by decide)); omega
  · have h4 := congrArg mk2 h3
    rw [mk_bear e s hb, mk_head e0 s0 hm0] at h4
    have := be2_zero he h4; omega
  · have h4 := congrArg mk2 h3
    rw [mk_bear e s hb, mk_bear e0 s0 h56] at h4
    have := be2_inj he (by omega) h4; omega
theorem putL_logB {e s : Nat} {l : List Wr} (hm : MayL l) (hok : WrsOk l) {c : List Int} (hc : c ∈ putL 0 e s l) : LogB e c := by
  unfold putL at hc
  rcases List.mem_cons.1 hc with rfl | hc
  · exact Or.inl ⟨s, l, hm, rfl⟩
  · obtain ⟨x, hx, rfl⟩ := List.mem_map.1 hc
    exact Or.inr ⟨s, x.bs, (hok x hx).len, rfl⟩
theorem LogB.not_old {e : Nat} {b : List Int} (h : LogB e b) (he0 : 1 ≤ e) (he : e < 65536) : ¬ Old e b := fun ho => by
  rcases h with ⟨s, l, hm, rfl⟩ | ⟨s, bs, hb, rfl⟩
  · exact ho.head he hm
  · exact ho.bear he0 he hb
theorem taken_parts {e s : Nat} {rest : List (List Int)} (h : Taken 0 e s rest) : ∃ l', MayL l' ∧ l'.length = cnt rest ∧ (∀ x ∈ l', x.bs.length = 56) ∧ ∀ i, i < 1 + cnt rest → rest[i]? = (putL 0 e s l')[i]? := by
  obtain ⟨h1, h2, h3⟩ := h
  refine ⟨readW rest (cnt rest), h2, readW_length _ _, fun x hx => ?_, fun i hi => ?_⟩
  · unfold readW at hx
    obtain ⟨j, _, rfl⟩ := List.mem_map.1 hx
    exact padB_length _
  · rw [h3, List.getElem?_take, if_pos hi]
theorem nt_old {e s : Nat} {rest : List (List Int)} (he : e < 65536) (h : ∀ b, rest[0]? = some b → Old e b) : ¬ Taken 0 e s rest := fun ht => by
  obtain ⟨l', h1, h2, h3, h4⟩ := taken_parts ht
  exact (h _ (h4 0 (by omega))).head he h1
theorem nt_broken {e s : Nat} {l : List Wr} {rest : List (List Int)} (he0 : 1 ≤ e) (he : e < 65536) (hm : MayL l) (h0 : ∀ i b, i < 1 + l.length → rest[i]? = some b → some b = (putL 0 e s l)[i]? ∨ Old e b) {i0 : Nat} (hi0 : i0 < 1 + l.length) (ho : ∀ b, rest[i0]? = some b → Old e b) : ¬ Taken 0 e s rest := fun ht => by
  obtain ⟨l', h1, h2, h3, h4⟩ := taken_parts ht
  have e0 := h4 0 (by omega)
  have hc : cnt rest = l.length := by
    rcases h0 0 _ (by omega) e0 with h5 | h5
    · have h6 : rest.headD [] = sumd (headR 0 e s l) := by
        cases hr : rest with
        | nil => rw [hr] at e0; cases e0
        | cons y ys =>
          rw [hr] at e0
          injection e0 with e0
          show y = _
          rw [e0]; injection h5
      have h7 : cnt rest = cnt (putL 0 e s l ++ []) := by unfold cnt; rw [h6]; rfl
      rw [h7, cnt_put hm]
    · exact absurd h5 (fun h => h.head he h1)
  have e1 := h4 i0 (by omega)
  cases i0 with
  | zero => exact (ho _ e1).head he h1
  | succ i =>
    unfold putL at e1
    rw [List.getElem?_cons_succ, List.getElem?_map] at e1
    obtain ⟨x, hx⟩ : ∃ x, l'[i]? = some x := ⟨_, List.getElem?_eq_getElem (by omega)⟩
    rw [hx] at e1
    exact (ho _ e1).bear he0 he (h3 x (List.mem_of_getElem? hx))
/-! Records, one behind the other. -/
theorem putsL_append (e : Nat) : ∀ (Rs Rs' : List (List Wr)) (s : Nat), putsL e s (Rs ++ Rs') = putsL e s Rs ++ putsL e (s + Rs.length) Rs'
  | [], _, _ => rfl
  | l :: Rs, Rs', s => by
    show putL 0 e s l ++ putsL e (s + 1) (Rs ++ Rs') = (putL 0 e s l ++ putsL e (s + 1) Rs) ++ _
    rw [putsL_append e Rs Rs' (s + 1), List.append_assoc, List.length_cons, show s + 1 + Rs.length = s + (Rs.length + 1) by omega]
theorem putsL_one (e s : Nat) (l : List Wr) : putsL e s [l] = putL 0 e s l := by show putL 0 e s l ++ [] = _; rw [List.append_nil]
theorem putsL_mem {e : Nat} : ∀ {Rs : List (List Wr)} {s : Nat} {c : List Int}, (∀ l ∈ Rs, MayL l ∧ WrsOk l) → c ∈ putsL e s Rs → LogB e c
  | [], _, _, _, h => by cases h
  | l :: Rs, s, c, hR, h => by
    rcases List.mem_append.1 h with h | h
    · exact putL_logB (hR l (by simp)).1 (hR l (by simp)).2 h
    · exact putsL_mem (fun l' hl => hR l' (by simp [hl])) h
/-- What a log is taken for: some first records, at least those that are sure. -/
theorem log_out {e : Nat} (he0 : 1 ≤ e) (he : e < 65536) (l : List Wr) (j : Nat) (hl : j = 0 ∨ (MayL l ∧ j ≤ l.length)) : ∀ (Rs : List (List Wr)) (s : Nat) (X : List (List Int)) (k : Nat), k ≤ Rs.length → (∀ l ∈ Rs, MayL l ∧ WrsOk l) → (putsL e s Rs).length ≤ X.length →
    (∀ (i : Nat) (c : List Int), (putsL e s Rs)[i]? = some c → ∀ b : List Int, X[i]? = some b → b = c ∨ Old e b) → (∀ (i : Nat) (c : List Int), (putsL e s (Rs.take k))[i]? = some c → ∀ b : List Int, X[i]? = some b → b = c) →
    (∀ i : Nat, i < j → ∀ b : List Int, X[(putsL e s Rs).length + i]? = some b → some b = (putL 0 e (s + Rs.length) l)[i]? ∨ Old e b) → (∀ i : Nat, (putsL e s Rs).length + j ≤ i → ∀ b : List Int, X[i]? = some b → Old e b) →
    ∃ k', k ≤ k' ∧ k' ≤ Rs.length ∧ ∃ rest, X = putsL e s (Rs.take k') ++ rest ∧ ¬ Taken 0 e (s + k') rest
  | [], s, X, k, hk, _, _, _, _, c3, c4 => by
    refine ⟨0, by simpa using hk, Nat.le_refl _, X, rfl, ?_⟩
    rcases hl with rfl | ⟨hm, hj⟩
    · exact nt_old he fun b hb => c4 0 (by show 0 + 0 ≤ 0; omega) b hb
    · refine nt_broken (l := l) (i0 := j) he0 he hm (fun i b hi hb => ?_) (by omega) fun b hb => c4 j (by show 0 + j ≤ j; omega) b hb
      by_cases hij : i < j
      · exact c3 i hij b (by rw [show (putsL e s []).length + i = i from Nat.zero_add i]; exact hb)
      · exact Or.inr (c4 i (by show 0 + j ≤ i; omega) b hb)
  | l0 :: Rs, s, X, k, hk, hR, hlen, c1, c2, c3, c4 => by
    have hm0 := hR l0 (by simp)
    have hp : (putL 0 e s l0).length = 1 + l0.length := putL_length _ _ _ _
    have hlen' : 1 + l0.length + (putsL e (s + 1) Rs).length ≤ X.length := by
      have : (putsL e s (l0 :: Rs)).length = (putL 0 e s l0).length + (putsL e (s + 1) Rs).length := List.length_append
      omega
    have hin : ∀ (i : Nat) (c : List Int), (putL 0 e s l0)[i]? = some c → (putsL e s (l0 :: Rs))[i]? = some c := fun i c hi => by
      show (putL 0 e s l0 ++ putsL e (s + 1) Rs)[i]? = _
      rw [List.getElem?_append_left (List.getElem?_eq_some_iff.1 hi).1]; exact hi
    by_cases hall : ∀ i : Nat, i < 1 + l0.length → X[i]? = (putL 0 e s l0)[i]?
    · have hX : X = putL 0 e s l0 ++ X.drop (1 + l0.length) := by
        apply List.ext_getElem?
        intro i
        by_cases hi : i < 1 + l0.length
        · rw [List.getElem?_append_left (by omega)]; exact hall i hi
        · rw [List.getElem?_append_right (by omega), hp, List.getElem?_drop, show 1 + l0.length + (i - (1 + l0.length)) = i by omega]
      have hsh : ∀ i : Nat, (putsL e s (l0 :: Rs))[1 + l0.length + i]? = (putsL e (s + 1) Rs)[i]? := fun i => by
        show (putL 0 e s l0 ++ putsL e (s + 1) Rs)[1 + l0.length + i]? = _
        rw [List.getElem?_append_right (by omega), hp, show 1 + l0.length + i - (1 + l0.length) = i by omega]
      have hll : (putsL e s (l0 :: Rs)).length = 1 + l0.length + (putsL e (s + 1) Rs).length := by
        show (putL 0 e s l0 ++ _).length = _
        rw [List.length_append, hp]
      obtain ⟨k', h1, h2, rest, h3, h4⟩ := log_out he0 he l j hl Rs (s + 1) (X.drop (1 + l0.length)) (k - 1) (by rw [List.length_cons] at hk; omega) (fun l' hl' => hR l' (by simp [hl'])) (by rw [List.length_drop]; omega)
        (fun i c hi b hb => c1 (1 + l0.length + i) c (by rw [hsh]; exact hi) b (by rw [List.getElem?_drop] at hb; exact hb))
        (fun i c hi b hb => by
          cases k with
          | zero => rw [show (0 : Nat) - 1 = 0 from rfl, List.take_zero] at hi; cases hi
          | succ k =>
            refine c2 (1 + l0.length + i) c ?_ b (by rw [List.getElem?_drop] at hb; exact hb)
            show (putL 0 e s l0 ++ putsL e (s + 1) (Rs.take k))[1 + l0.length + i]? = _
            rw [List.getElem?_append_right (by omega), hp, show 1 + l0.length + i - (1 + l0.length) = i by omega]; exact hi)
        (fun i hi b hb => by
          have := c3 i hi b (by rw [hll, Nat.add_assoc]; rw [List.getElem?_drop] at hb; exact hb)
          rw [List.length_cons, show s + (Rs.length + 1) = s + 1 + Rs.length by omega] at this; exact this)
        (fun i hi b hb => c4 (1 + l0.length + i) (by rw [hll]; omega) b (by rw [List.getElem?_drop] at hb; exact hb))
      refine ⟨k' + 1, by omega, by rw [List.length_cons]; omega, rest, ?_, by rw [show s + (k' + 1) = s + 1 + k' by omega]; exact h4⟩
      rw [hX, h3]
      show _ = (putL 0 e s l0 ++ putsL e (s + 1) (Rs.take k')) ++ rest
      rw [List.append_assoc]
    · have hex : ∃ i : Nat, i < 1 + l0.length ∧ X[i]? ≠ (putL 0 e s l0)[i]? := by
        apply Classical.byContradiction
        intro hn
        exact hall fun i hi => Classical.byContradiction fun hne => hn ⟨i, hi, hne⟩
      obtain ⟨i0, hi0, hne⟩ := hex
      obtain ⟨c, hc⟩ : ∃ c, (putL 0 e s l0)[i0]? = some c := ⟨_, List.getElem?_eq_getElem (by omega)⟩
      obtain ⟨b, hb⟩ : ∃ b, X[i0]? = some b := ⟨_, List.getElem?_eq_getElem (by omega)⟩
      have hbc : b ≠ c := fun h => hne (by rw [hb, hc, h])
      have hk0 : k = 0 := by
        cases k with
        | zero => rfl
        | succ k =>
          refine absurd (c2 i0 c ?_ b hb) hbc
          show (putL 0 e s l0 ++ putsL e (s + 1) (Rs.take k))[i0]? = _
          rw [List.getElem?_append_left (by omega)]; exact hc
      refine ⟨0, by omega, Nat.zero_le _, X, rfl, ?_⟩
      refine nt_broken (l := l0) (i0 := i0) he0 he hm0.1 (fun i b' hi hb' => ?_) hi0 fun b' hb' => ?_
      · obtain ⟨c', hc'⟩ : ∃ c', (putL 0 e s l0)[i]? = some c' := ⟨_, List.getElem?_eq_getElem (by omega)⟩
        rcases c1 i c' (hin i c' hc') b' hb' with h | h
        · exact Or.inl (by rw [Nat.add_zero, hc', h])
        · exact Or.inr h
      · rw [hb] at hb'; injection hb' with hb'; subst hb'
        rcases c1 i0 c (hin i0 c hc) b hb with h | h
        · exact absurd h hbc
        · exact h
/-! What blocks are behind writes. -/
structure Bk where
  (k : Int) (bs : List Int)
deriving DecidableEq
def val (x : HB) : Bk := ⟨x.k, x.bs⟩
def applyW (S : List Bk) : List Wr → List Bk
  | [] => S
  | x :: l => applyW (if 0 ≤ x.t ∧ x.t < S.length then S.set x.t.toNat ⟨x.k, x.bs⟩ else S) l
theorem applyW_append (S : List Bk) : ∀ l m, applyW S (l ++ m) = applyW (applyW S l) m := by
  intro l
  induction l generalizing S with
  | nil => intro m; rfl
  | cons x l ih => intro m; exact ih _ m
theorem applyW_length : ∀ (l : List Wr) (S : List Bk), (applyW S l).length = S.length
  | [], _ => rfl
  | x :: l, S => by
    show (applyW _ l).length = _
    rw [applyW_length l]
    split
    · simp
    · rfl
theorem layB_val : ∀ (l : List Wr) (B : List HB), (layB B l).map val = applyW (B.map val) l
  | [], _ => rfl
  | x :: l, B => by
    show (layB _ l).map val = applyW _ l
    rw [layB_val l, List.length_map]
    congr 1
    split
    · rw [List.map_set]; rfl
    · rfl
def Untouched (l : List Wr) (i : Nat) : Prop := ∀ w ∈ l, w.t ≠ (i : Int)
/-- Blocks that no record has stay as they were; the others are what the last one says. -/
theorem lay_rel : ∀ (l : List Wr) (B : List HB) (S : List Bk) (S0 : Nat → Option Bk), B.length = S.length → (∀ (i : Nat) (x : HB), B[i]? = some x → (x.lg = true → S[i]? = some (val x)) ∧ (x.lg = false → S[i]? = S0 i)) →
    ∀ (i : Nat) (x : HB), (layB B l)[i]? = some x → (x.lg = true → (applyW S l)[i]? = some (val x)) ∧ (x.lg = false → (applyW S l)[i]? = S0 i ∧ Untouched l i ∧ ∃ y, B[i]? = some y ∧ y.lg = false)
  | [], B, S, S0, hl, h, i, x, hx => ⟨(h i x hx).1, fun hf => ⟨(h i x hx).2 hf, (fun w hw => by cases hw), x, hx, hf⟩⟩
  | w :: l, B, S, S0, hl, h, i, x, hx => by
    have hx' : (layB (if 0 ≤ w.t ∧ w.t < B.length then B.set w.t.toNat ⟨w.k, w.bs, true⟩ else B) l)[i]? = some x := hx
    by_cases hc : 0 ≤ w.t ∧ w.t < B.length
    · rw [if_pos hc] at hx'
      have hc' : 0 ≤ w.t ∧ w.t < S.length := by rw [← hl]; exact hc
      have ih := lay_rel l (B.set w.t.toNat ⟨w.k, w.bs, true⟩) (S.set w.t.toNat ⟨w.k, w.bs⟩) S0 (by simp [hl]) (fun i' x' hx'' => by
        by_cases e : w.t.toNat = i'
        · subst e
          rw [List.getElem?_set_self (by omega)] at hx''
          injection hx'' with hx''; subst hx''
          exact ⟨fun _ => by rw [List.getElem?_set_self (by omega)]; rfl, fun hf => by cases hf⟩
        · rw [List.getElem?_set_ne e] at hx''
          rw [List.getElem?_set_ne e]
          exact h i' x' hx'') i x hx'
      have e1 : applyW S (w :: l) = applyW (S.set w.t.toNat ⟨w.k, w.bs⟩) l := by show applyW (if _ then _ else _) l = _; rw [if_pos hc']
      rw [e1]
      refine ⟨ih.1, fun hf => ?_⟩
      obtain ⟨h1, h2, y, h3, h4⟩ := ih.2 hf
      have hne : w.t.toNat ≠ i := fun e => by
        subst e
        rw [List.getElem?_set_self (by omega)] at h3
        injection h3 with h3; subst h3; cases h4
      rw [List.getElem?_set_ne hne] at h3
      refine ⟨h1, fun w' hw' => ?_, y, h3, h4⟩
      rcases List.mem_cons.1 hw' with rfl | hw'
      · omega
      · exact h2 w' hw'
    · rw [if_neg hc] at hx'
      have hc' : ¬ (0 ≤ w.t ∧ w.t < S.length) := by rw [← hl]; exact hc
      have ih := lay_rel l B S S0 hl h i x hx'
      have e1 : applyW S (w :: l) = applyW S l := by show applyW (if _ then _ else _) l = _; rw [if_neg hc']
      rw [e1]
      refine ⟨ih.1, fun hf => ?_⟩
      obtain ⟨h1, h2, y, h3, h4⟩ := ih.2 hf
      refine ⟨h1, fun w' hw' => ?_, y, h3, h4⟩
      rcases List.mem_cons.1 hw' with rfl | hw'
      · have := (List.getElem?_eq_some_iff.1 h3).1; omega
      · exact h2 w' hw'
theorem applyW_unt : ∀ (l : List Wr) (S : List Bk) (i : Nat), Untouched l i → (applyW S l)[i]? = S[i]?
  | [], _, _, _ => rfl
  | w :: l, S, i, h => by
    show (applyW (if _ then _ else _) l)[i]? = _
    rw [applyW_unt l _ i fun w' hw' => h w' (by simp [hw'])]
    have := h w (by simp)
    split
    · rw [List.getElem?_set_ne (by omega)]
    · rfl
structure Bk.Ok (x : Bk) : Prop where
  k : 0 ≤ x.k ∧ x.k ≤ 7
  len : x.bs.length = 56
  b : AllB x.bs
def BksOk (S : List Bk) : Prop := ∀ x ∈ S, x.Ok
theorem applyW_ok : ∀ {l : List Wr} {S : List Bk}, WrsOk l → KindsOk l → BksOk S → BksOk (applyW S l)
  | [], _, _, _, h => h
  | w :: l, S, hw, hk, h => by
    refine applyW_ok (l := l) (fun y hy => hw y (by simp [hy])) (fun y hy => hk y (by simp [hy])) ?_
    have hx := hw w (by simp)
    split
    · intro y hy
      rcases List.mem_or_eq_of_mem_set hy with h1 | h1
      · exact h y h1
      · rw [h1]; exact ⟨hk w (by simp), hx.len, hx.b⟩
    · exact h
end Go.Proofs.Ytamnpblijdgdaaa
