/- The model: what is near, the one used last first; how frames are like it. Of no function. -/
import Derived.Test.YtbcnjilhibkcnaaKj
namespace Go.Proofs.Ytbcnjilhibkcnaa
open Go.ChangeShapes Go.WideShapes Go.ChangeAt Go.RowKit
set_option linter.unusedVariables false
/-- A write and whether it is dirty. -/
abbrev Ent : Type := Wr × Bool
def zE : Ent := (zW, false)
structure Abs (l : List Fr) (L : List Ent) : Prop where
  len : L.length = l.length
  at_ : ∀ (i : Nat) (f : Fr), l[i]? = some f → L[f.a]? = some (f.w, f.d)
  inj : ∀ (i j : Nat) (f f' : Fr), l[i]? = some f → l[j]? = some f' → f.a = f'.a → i = j
  sur : ∀ a, a < l.length → ∃ (i : Nat) (f : Fr), l[i]? = some f ∧ f.a = a
theorem Abs.nil : Abs [] [] := ⟨rfl, fun i f h => by simp at h, fun i j f f' h => by simp at h, fun a h => by simp at h⟩
theorem Abs.lt {l : List Fr} {L : List Ent} (h : Abs l L) {i : Nat} {f : Fr} (hi : l[i]? = some f) : f.a < l.length := by
  have := (List.getElem?_eq_some_iff.1 (h.at_ i f hi)).1
  rw [h.len] at this; exact this
theorem Abs.ages {l : List Fr} {L : List Ent} (h : Abs l L) (h51 : l.length ≤ 51) : ∀ f ∈ l, f.a ≤ 99 := fun f hf => by
  obtain ⟨i, hi⟩ := List.mem_iff_getElem?.1 hf
  have := h.lt hi; omega
theorem set_char {α : Type} {l : List α} {k i : Nat} {g x : α} (h : (l.set k g)[i]? = some x) : (i = k ∧ x = g) ∨ (i ≠ k ∧ l[i]? = some x) := by
  rw [List.getElem?_set] at h
  split at h
  · rename_i e
    split at h
    · injection h with h; exact .inl ⟨e.symm, h.symm⟩
    · cases h
  · rename_i e; exact .inr ⟨fun h' => e h'.symm, h⟩
theorem set_here {α : Type} {l : List α} {k : Nat} {f g : α} (h : l[k]? = some f) : (l.set k g)[k]? = some g := List.getElem?_set_self (List.getElem?_eq_some_iff.1 h).1
theorem Abs.set {l : List Fr} {L : List Ent} (h : Abs l L) {k : Nat} {f : Fr} (hk : l[k]? = some f) (w : Wr) (d : Bool) : Abs (l.set k ⟨w, f.a, d⟩) (L.set f.a (w, d)) where
  len := by simp [h.len]
  at_ i x hi := by
    rcases set_char hi with ⟨rfl, rfl⟩ | ⟨hne, hx⟩
    · exact set_here (h.at_ _ f hk)
    · rw [List.getElem?_set_ne (fun e => hne (h.inj _ _ _ _ hx hk e.symm))]; exact h.at_ i x hx
  inj i j x y hi hj e := by
    rcases set_char hi with ⟨rfl, rfl⟩ | ⟨hi', hx⟩ <;> rcases set_char hj with ⟨rfl, rfl⟩ | ⟨hj', hy⟩
    · rfl
    · exact absurd (h.inj _ _ _ _ hy hk e.symm) hj'
    · exact absurd (h.inj _ _ _ _ hx hk e) hi'
    · exact h.inj _ _ _ _ hx hy e
  sur a ha := by
    rw [List.length_set] at ha
    obtain ⟨i, x, hx, hxa⟩ := h.sur a ha
    by_cases hik : i = k
    · subst hik
      rw [hx] at hk; injection hk with hk; subst hk
      exact ⟨i, _, set_here hx, hxa⟩
    · exact ⟨i, x, by rw [List.getElem?_set_ne (fun e => hik e.symm)]; exact hx, hxa⟩
theorem Abs.add {l : List Fr} {L : List Ent} (h : Abs l L) (w : Wr) (d : Bool) : Abs (l ++ [⟨w, l.length, d⟩]) (L ++ [(w, d)]) := by
  have char : ∀ {i : Nat} {x : Fr}, (l ++ [(⟨w, l.length, d⟩ : Fr)])[i]? = some x → (i = l.length ∧ x = ⟨w, l.length, d⟩) ∨ l[i]? = some x := fun {i x} hi => by
    rcases Nat.lt_or_ge i l.length with h1 | h1
    · rw [List.getElem?_append_left h1] at hi; exact .inr hi
    · rw [List.getElem?_append_right h1] at hi
      have := (List.getElem?_eq_some_iff.1 hi).1
      simp at this
      have e : i = l.length := by omega
      subst e
      simp at hi; exact .inl ⟨rfl, hi.symm⟩
  have lt := @Abs.lt l L h
  refine ⟨by simp [h.len], fun i x hi => ?_, fun i j x y hi hj e => ?_, fun a ha => ?_⟩
  · rcases char hi with ⟨rfl, rfl⟩ | hx
    · show (L ++ [(w, d)])[l.length]? = _
      rw [← h.len, List.getElem?_append_right (Nat.le_refl _)]; simp
    · rw [List.getElem?_append_left (by rw [h.len]; exact lt hx)]; exact h.at_ i x hx
  · rcases char hi with ⟨rfl, rfl⟩ | hx <;> rcases char hj with ⟨rfl, rfl⟩ | hy
    · rfl
    · have := lt hy; have e' : l.length = y.a := e; omega
    · have := lt hx; have e' : x.a = l.length := e; omega
    · exact h.inj _ _ _ _ hx hy e
  · simp at ha
    by_cases e : a = l.length
    · subst e; exact ⟨l.length, ⟨w, l.length, d⟩, by rw [List.getElem?_append_right (Nat.le_refl _)]; simp, rfl⟩
    · obtain ⟨i, x, hx, hxa⟩ := h.sur a (by omega)
      exact ⟨i, x, by rw [List.getElem?_append_left (List.getElem?_eq_some_iff.1 hx).1]; exact hx, hxa⟩
theorem useF_char {l : List Fr} {k i : Nat} {f x : Fr} (h : (useF l k f)[i]? = some x) : (i = k ∧ x = ⟨f.w, 0, f.d⟩) ∨ (i ≠ k ∧ ∃ y, l[i]? = some y ∧ x = olderF f.a y) := by
  unfold useF at h
  rcases set_char h with h | ⟨hne, h⟩
  · exact .inl h
  · rw [List.getElem?_map] at h
    obtain ⟨y, hy, e⟩ := Option.map_eq_some_iff.1 h
    exact .inr ⟨hne, y, hy, e.symm⟩
theorem useF_other {l : List Fr} {k i : Nat} {f y : Fr} (hne : i ≠ k) (h : l[i]? = some y) : (useF l k f)[i]? = some (olderF f.a y) := by
  unfold useF; rw [List.getElem?_set_ne (fun e => hne e.symm), List.getElem?_map, h]; rfl
theorem Abs.use {l : List Fr} {L : List Ent} (h : Abs l L) {k : Nat} {f : Fr} (hk : l[k]? = some f) : Abs (useF l k f) ((f.w, f.d) :: L.eraseIdx f.a) := by
  have lt := h.lt hk
  have hlt : f.a < L.length := by rw [h.len]; exact lt
  have older : ∀ {i : Nat} {y : Fr}, i ≠ k → l[i]? = some y → (y.a < f.a ∧ (olderF f.a y).a = y.a + 1) ∨ (f.a < y.a ∧ (olderF f.a y).a = y.a) := fun {i y} hne hy => by
    have h1 : y.a ≠ f.a := fun e => hne (h.inj _ _ _ _ hy hk e)
    unfold olderF
    by_cases e : y.a < f.a
    · rw [if_pos e]; exact .inl ⟨e, rfl⟩
    · rw [if_neg e]; exact .inr ⟨by omega, rfl⟩
  refine ⟨?_, fun i x hi => ?_, fun i j x y hi hj e => ?_, fun a ha => ?_⟩
  · rw [useF_len, List.length_cons, List.length_eraseIdx_of_lt hlt, h.len]; omega
  · rcases useF_char hi with ⟨rfl, rfl⟩ | ⟨hne, y, hy, rfl⟩
    · rfl
    · rw [(olderF_w f.a y).1, (olderF_w f.a y).2]
      rcases older hne hy with ⟨h1, h2⟩ | ⟨h1, h2⟩
      · rw [h2, List.getElem?_cons_succ, List.getElem?_eraseIdx_of_lt h1]; exact h.at_ i y hy
      · obtain ⟨z, hz⟩ : ∃ z, y.a = z + 1 := ⟨y.a - 1, by omega⟩
        rw [h2, hz, List.getElem?_cons_succ, List.getElem?_eraseIdx_of_ge (by omega), ← hz]; exact h.at_ i y hy
  · rcases useF_char hi with ⟨rfl, rfl⟩ | ⟨hi', y1, hy1, rfl⟩ <;> rcases useF_char hj with ⟨rfl, rfl⟩ | ⟨hj', y2, hy2, rfl⟩
    · rfl
    · rcases older hj' hy2 with ⟨h1, h2⟩ | ⟨h1, h2⟩ <;> (have e' : 0 = (olderF f.a y2).a := e; omega)
    · rcases older hi' hy1 with ⟨h1, h2⟩ | ⟨h1, h2⟩ <;> (have e' : (olderF f.a y1).a = 0 := e; omega)
    · refine h.inj _ _ _ _ hy1 hy2 ?_
      rcases older hi' hy1 with ⟨h1, h2⟩ | ⟨h1, h2⟩ <;> rcases older hj' hy2 with ⟨h3, h4⟩ | ⟨h3, h4⟩ <;> omega
  · rw [useF_len] at ha
    by_cases e0 : a = 0
    · subst e0; exact ⟨k, _, useF_at hk, rfl⟩
    · by_cases e1 : a ≤ f.a
      · obtain ⟨i, y, hy, hya⟩ := h.sur (a - 1) (by omega)
        have hne : i ≠ k := fun e => by subst e; rw [hy] at hk; injection hk with hk; subst hk; omega
        refine ⟨i, _, useF_other hne hy, ?_⟩
        rcases older hne hy with ⟨h1, h2⟩ | ⟨h1, h2⟩ <;> omega
      · obtain ⟨i, y, hy, hya⟩ := h.sur a ha
        have hne : i ≠ k := fun e => by subst e; rw [hy] at hk; injection hk with hk; subst hk; omega
        refine ⟨i, _, useF_other hne hy, ?_⟩
        rcases older hne hy with ⟨h1, h2⟩ | ⟨h1, h2⟩ <;> omega
theorem Abs.old {l : List Fr} {L : List Ent} (h : Abs l L) {r : Nat} {f : Fr} (hr : l[r]? = some f) (ho : Oldest l l.length r) : f.a + 1 = L.length := by
  have hpos : 0 < l.length := by have := (List.getElem?_eq_some_iff.1 hr).1; omega
  obtain ⟨i, y, hy, hya⟩ := h.sur (l.length - 1) (by omega)
  obtain ⟨f', hf', hm⟩ := ho
  rw [hr] at hf'; injection hf' with hf'; subst hf'
  have h1 := hm i y (List.getElem?_eq_some_iff.1 hy).1 hy
  have h2 := h.lt hr
  rw [h.len]; omega
theorem Abs.drop {l : List Fr} {L : List Ent} (h : Abs l L) {r : Nat} {f : Fr} (hr : l[r]? = some f) (ho : Oldest l l.length r) : Abs (l.eraseIdx r) L.dropLast := by
  have hfa := h.old hr ho
  have hrl := (List.getElem?_eq_some_iff.1 hr).1
  have char : ∀ {i : Nat} {x : Fr}, (l.eraseIdx r)[i]? = some x → ∃ j, j ≠ r ∧ l[j]? = some x ∧ (i < r ∧ j = i ∨ r ≤ i ∧ j = i + 1) := fun {i x} hi => by
    rcases Nat.lt_or_ge i r with h1 | h1
    · rw [List.getElem?_eraseIdx_of_lt h1] at hi; exact ⟨i, by omega, hi, .inl ⟨h1, rfl⟩⟩
    · rw [List.getElem?_eraseIdx_of_ge h1] at hi; exact ⟨i + 1, by omega, hi, .inr ⟨h1, rfl⟩⟩
  refine ⟨by rw [List.length_dropLast, h.len, List.length_eraseIdx_of_lt hrl], fun i x hi => ?_, fun i j x y hi hj e => ?_, fun a ha => ?_⟩
  · obtain ⟨j, hj, hx, _⟩ := char hi
    have hne : x.a ≠ f.a := fun e => hj (h.inj _ _ _ _ hx hr e)
    have := h.lt hx
    rw [h.len] at hfa
    rw [List.getElem?_dropLast, if_pos (by rw [h.len]; omega)]; exact h.at_ j x hx
  · obtain ⟨i', hi1, hx, hi2⟩ := char hi
    obtain ⟨j', hj1, hy, hj2⟩ := char hj
    have := h.inj _ _ _ _ hx hy e
    omega
  · rw [List.length_eraseIdx_of_lt hrl] at ha
    rw [h.len] at hfa
    obtain ⟨i, x, hx, hxa⟩ := h.sur a (by omega)
    have hne : i ≠ r := fun e => by subst e; rw [hx] at hr; injection hr with hr; subst hr; omega
    rcases Nat.lt_or_ge i r with h1 | h1
    · exact ⟨i, x, by rw [List.getElem?_eraseIdx_of_lt h1]; exact hx, hxa⟩
    · exact ⟨i - 1, x, by rw [List.getElem?_eraseIdx_of_ge (by omega), show i - 1 + 1 = i by omega]; exact hx, hxa⟩
/-! Where it is. -/
def posL (L : List Ent) (t : Int) : Option Nat := L.findIdx? fun x => decide (x.1.t = t)
def Dis (L : List Ent) : Prop := (L.map (·.1.t)).Nodup
theorem posL_no {L : List Ent} {t : Int} (h : posL L t = none) : ∀ (a : Nat) (x : Ent), L[a]? = some x → x.1.t ≠ t := by
  intro a x hx
  unfold posL at h
  have := (List.findIdx?_eq_none_iff.1 h) x (List.mem_of_getElem? hx)
  simpa using this
theorem posL_none {L : List Ent} {t : Int} (h : ∀ (a : Nat) (x : Ent), L[a]? = some x → x.1.t ≠ t) : posL L t = none := by
  unfold posL
  rw [List.findIdx?_eq_none_iff]
  intro x hx
  obtain ⟨a, ha⟩ := List.mem_iff_getElem?.1 hx
  exact decide_eq_false (h a x ha)
theorem posL_is {L : List Ent} {t : Int} {a : Nat} (h : posL L t = some a) : ∃ x, L[a]? = some x ∧ x.1.t = t := by
  unfold posL at h
  obtain ⟨hl, h1, _⟩ := List.findIdx?_eq_some_iff_getElem.1 h
  exact ⟨_, List.getElem?_eq_getElem hl, by simpa using h1⟩
theorem Dis.uniq {L : List Ent} (h : Dis L) {a b : Nat} {x y : Ent} (hx : L[a]? = some x) (hy : L[b]? = some y) (e : x.1.t = y.1.t) : a = b := by
  unfold Dis at h
  have ha := (List.getElem?_eq_some_iff.1 hx).1
  refine (List.getElem?_inj (l := L.map (·.1.t)) (by simpa using ha) h).1 ?_
  rw [List.getElem?_map, List.getElem?_map, hx, hy]; simp [e]
theorem perm_erase {α : Type} {L : List α} {a : Nat} {x : α} (h : L[a]? = some x) : (x :: L.eraseIdx a).Perm L := by
  induction L generalizing a with
  | nil => cases h
  | cons y L ih => cases a with
    | zero => injection h with h; subst h; exact List.Perm.refl _
    | succ a => exact (List.Perm.swap y x _).trans ((ih h).cons y)
theorem posL_some {L : List Ent} (h : Dis L) {t : Int} {a : Nat} {x : Ent} (hx : L[a]? = some x) (ht : x.1.t = t) : posL L t = some a := by
  rcases hp : posL L t with _ | b
  · exact absurd ht (posL_no hp a x hx)
  · obtain ⟨y, hy, hyt⟩ := posL_is hp
    rw [h.uniq hx hy (by rw [ht, hyt])]
theorem Abs.pos_none {l : List Fr} {L : List Ent} (h : Abs l L) {t : Int} (hp : posF l t = none) : posL L t = none := posL_none fun a x hx => by
  have ha := (List.getElem?_eq_some_iff.1 hx).1
  rw [h.len] at ha
  obtain ⟨i, f, hf, hfa⟩ := h.sur a ha
  have := h.at_ i f hf
  rw [hfa, hx] at this; injection this with this; subst this
  exact posF_no hp i f hf
theorem Abs.pos_some {l : List Fr} {L : List Ent} (h : Abs l L) (hd : Dis L) {t : Int} {k : Nat} {f : Fr} (hp : posF l t = some k) (hf : l[k]? = some f) : posL L t = some f.a ∧ f.w.t = t := by
  obtain ⟨f', hf', ht⟩ := posF_is hp
  rw [hf] at hf'; injection hf' with hf'; subst hf'
  exact ⟨posL_some hd (h.at_ k f hf) ht, ht⟩
/-! What is done. -/
def getM (L : List Ent) (t : Int) : List Ent := match posL L t with
  | none => L
  | some a => L.getD a zE :: L.eraseIdx a
def ansM (L : List Ent) (t : Int) : Value := match posL L t with
  | none => ansB 0 zBs false
  | some a => ansB (L.getD a zE).1.k (L.getD a zE).1.bs true
def putM (m : Nat) (L : List Ent) (w : Wr) (d : Bool) : List Ent := match posL L w.t with
  | none => ((w, d) :: L).take (m + 1)
  | some a => (w, (L.getD a zE).2 || d) :: L.eraseIdx a
/-- What goes. -/
def outM (m : Nat) (L : List Ent) (t : Int) : Ent := if posL L t = none ∧ m + 1 ≤ L.length then L.getLastD zE else zE
def toldE (x : Ent) : Value := ansW (if x.2 then x.1 else zW) x.2
theorem getM_perm (L : List Ent) (t : Int) : (getM L t).Perm L := by
  unfold getM
  split
  · exact List.Perm.refl _
  · rename_i a h
    obtain ⟨x, hx, _⟩ := posL_is h
    obtain ⟨hl, e⟩ := List.getElem?_eq_some_iff.1 hx
    rw [List.getD_eq_getElem?_getD, hx]
    exact perm_erase hx
theorem getM_dis {L : List Ent} (h : Dis L) (t : Int) : Dis (getM L t) := ((getM_perm L t).map _).nodup_iff.2 h
theorem putM_dis {m : Nat} {L : List Ent} (h : Dis L) (w : Wr) (d : Bool) : Dis (putM m L w d) := by
  unfold putM
  split
  · rename_i hp
    unfold Dis
    rw [List.map_take]
    refine List.Nodup.sublist (List.take_sublist _ _) ?_
    rw [List.map_cons, List.nodup_cons]
    refine ⟨fun hm => ?_, h⟩
    obtain ⟨x, hx, e⟩ := List.mem_map.1 hm
    obtain ⟨a, ha⟩ := List.mem_iff_getElem?.1 hx
    exact posL_no hp a x ha e
  · rename_i a hp
    obtain ⟨x, hx, hxt⟩ := posL_is hp
    obtain ⟨hl, e⟩ := List.getElem?_eq_some_iff.1 hx
    unfold Dis
    rw [List.map_cons]
    have h1 : (L.map (·.1.t)).Perm (w.t :: (L.eraseIdx a).map (·.1.t)) := by
      have := ((perm_erase hx).map (fun x : Ent => x.1.t)).symm
      rw [List.map_cons, hxt] at this
      exact this
    exact h1.nodup_iff.1 h
theorem posL_lt {L : List Ent} {t : Int} {a : Nat} (h : posL L t = some a) : a < L.length := by
  obtain ⟨x, hx, _⟩ := posL_is h
  exact (List.getElem?_eq_some_iff.1 hx).1
theorem putM_len {m : Nat} {L : List Ent} (h : L.length ≤ m + 1) (w : Wr) (d : Bool) : (putM m L w d).length ≤ m + 1 := by
  unfold putM
  split
  · rw [List.length_take]; omega
  · rename_i a hp
    have := posL_lt hp
    rw [List.length_cons, List.length_eraseIdx_of_lt this]; omega
theorem getM_len (L : List Ent) (t : Int) : (getM L t).length = L.length := (getM_perm L t).length_eq
/-- A cache that is like the model. -/
def Cached (w : World) (g m : Nat) (L : List Ent) (R : Nat → Prop) : Prop := ∃ l, CAt w g m l R ∧ Abs l L ∧ Dis L ∧ L.length ≤ m + 1
theorem Cached.mono {w : World} {g m : Nat} {L : List Ent} {R R' : Nat → Prop} (h : Cached w g m L R) (hR : ∀ k, R k → R' k) : Cached w g m L R' := let ⟨l, h1, h2⟩ := h; ⟨l, h1.mono hR, h2⟩
theorem Cached.kept {w w' : World} {g m : Nat} {L : List Ent} {R R' : Nat → Prop} (h : Cached w g m L R) (hs : Stp R' w w') (hR : ∀ k, R k → ¬ R' k) : Cached w' g m L R := let ⟨l, h1, h2⟩ := h; ⟨l, h1.kept hs hR, h2⟩
theorem Cached.below {w w' : World} {g m : Nat} {L : List Ent} {R : Nat → Prop} (h : Cached w g m L R) (hb : Below w.heap.size w w') : Cached w' g m L R := let ⟨l, h1, h2⟩ := h; ⟨l, h1.below hb, h2⟩
theorem getD_of {L : List Ent} {a : Nat} {x : Ent} (h : L[a]? = some x) : L.getD a zE = x := by rw [List.getD_eq_getElem?_getD, h]; rfl
theorem new_m (n : Int) (hn : i64 n) (w : World) :
    Calls Try.prog 8 #[.int .i64 n] w fun e w' => e = .returned (.pointer (some ⟨w.heap.size, 0, none⟩)) ∧ Cached w' w.heap.size (moreOf n) [] (fun k => w.heap.size ≤ k ∧ k < w'.heap.size) ∧ Below w.heap.size w w' :=
  (new_any n hn w).mono fun e w' ⟨h1, h2, h3⟩ => ⟨h1, ⟨[], h2, Abs.nil, List.nodup_nil, Nat.zero_le _⟩, h3⟩
theorem len_m {w : World} {g m : Nat} {L : List Ent} {R : Nat → Prop} (h : Cached w g m L R) :
    Calls Try.prog 20 #[.pointer (some ⟨g, 0, none⟩)] w fun e w' => e = .returned (.int .i64 (L.length : Nat)) ∧ w = w' := by
  obtain ⟨l, h1, h2, _⟩ := h
  rw [h2.len]; exact len_any h1
theorem peek_m {w : World} {g m : Nat} {L : List Ent} {R : Nat → Prop} (h : Cached w g m L R) (t : Int) (ht : i64 t) :
    Calls Try.prog 12 #[.pointer (some ⟨g, 0, none⟩), .int .i64 t] w fun e w' => e = .returned (ansM L t) ∧ Below w.heap.size w w' := by
  obtain ⟨l, h1, h2, h3, _⟩ := h
  refine (peek_any h1 t ht).mono ?_
  rintro e w' ⟨⟨hp, rfl⟩ | ⟨k, f, hp, hf, rfl⟩, hb⟩
  · exact ⟨by unfold ansM; rw [h2.pos_none hp], hb⟩
  · exact ⟨by unfold ansM; rw [(h2.pos_some h3 hp hf).1]; simp only; rw [getD_of (h2.at_ k f hf)], hb⟩
theorem get_m {w : World} {g m : Nat} {L : List Ent} {R : Nat → Prop} (h : Cached w g m L R) (hR : ∀ k, R k → k < w.heap.size) (t : Int) (ht : i64 t) :
    Calls Try.prog 10 #[.pointer (some ⟨g, 0, none⟩), .int .i64 t] w fun e w' => e = .returned (ansM L t) ∧ Cached w' g m (getM L t) (New R w w') ∧ Stp R w w' := by
  obtain ⟨l, h1, h2, h3, h4⟩ := h
  have h51 : l.length ≤ 51 := let ⟨v, h⟩ := h1; h.len
  refine (get_any h1 hR t ht (fun f hf => Nat.le_trans (h2.ages h51 f hf) (by omega))).mono ?_
  rintro e w' ⟨⟨hp, rfl, hc⟩ | ⟨k, f, hp, hf, rfl, hc⟩, hs⟩
  · refine ⟨by unfold ansM; rw [h2.pos_none hp], ?_, hs⟩
    rw [show getM L t = L by unfold getM; rw [h2.pos_none hp]]
    exact ⟨l, hc, h2, h3, h4⟩
  · have hp2 := (h2.pos_some h3 hp hf).1
    have hg := getD_of (h2.at_ k f hf)
    refine ⟨by unfold ansM; rw [hp2]; simp only; rw [hg], ?_, hs⟩
    have e : getM L t = (f.w, f.d) :: L.eraseIdx f.a := by unfold getM; rw [hp2]; simp only; rw [hg]
    refine ⟨_, hc, by rw [e]; exact h2.use hf, getM_dis h3 t, by rw [getM_len]; exact h4⟩
theorem eraseIdx_set {α : Type} (L : List α) (a : Nat) (x : α) : (L.set a x).eraseIdx a = L.eraseIdx a := by
  induction L generalizing a with
  | nil => rfl
  | cons y L ih => cases a with
    | zero => rfl
    | succ a => show y :: (L.set a x).eraseIdx a = y :: L.eraseIdx a; rw [ih]
theorem eraseIdx_last {α : Type} (L : List α) (x : α) : (L ++ [x]).eraseIdx L.length = L := by
  induction L with
  | nil => rfl
  | cons y L ih => show y :: (L ++ [x]).eraseIdx L.length = _; rw [ih]
theorem put_m {w : World} {g m : Nat} {L : List Ent} {R : Nat → Prop} (h : Cached w g m L R) (hR : ∀ k, R k → k < w.heap.size) (x : Wr) (hx : x.Ok) (d : Bool) :
    Calls Try.prog 16 #[.pointer (some ⟨g, 0, none⟩), .int .i64 x.t, .agg (blkA x.k x.bs), .bool d] w fun e w' => e = .returned (toldE (outM m L x.t)) ∧ Cached w' g m (putM m L x d) (New R w w') ∧ Stp R w w' := by
  obtain ⟨l, h1, h2, h3, h4⟩ := h
  have hm : m ≤ 49 := let ⟨v, h⟩ := h1; h.few
  have hl50 : l.length ≤ 50 := by rw [← h2.len]; omega
  rcases hp : posF l x.t with _ | k
  · have hpl := h2.pos_none hp
    have habs := ((h2.add ⟨x.t, 0, zBs⟩ false).set (k := l.length) (f := ⟨⟨x.t, 0, zBs⟩, l.length, false⟩) (by rw [List.getElem?_append_right (Nat.le_refl _)]; simp) ⟨x.t, x.k, x.bs⟩ (false || d))
    have hk : ((l ++ [(⟨⟨x.t, 0, zBs⟩, l.length, false⟩ : Fr)]).set l.length ⟨⟨x.t, x.k, x.bs⟩, l.length, false || d⟩)[l.length]? = some ⟨⟨x.t, x.k, x.bs⟩, l.length, false || d⟩ := List.getElem?_set_self (by simp)
    have hu := habs.use hk
    have eL : (L ++ [((⟨x.t, 0, zBs⟩ : Wr), false)]).set l.length (⟨x.t, x.k, x.bs⟩, false || d) = L ++ [(x, d)] := by
      rw [← h2.len, List.set_append_right _ _ (Nat.le_refl _), Nat.sub_self, Bool.false_or]; rfl
    change Abs (putF (l ++ [(⟨⟨x.t, 0, zBs⟩, l.length, false⟩ : Fr)]) l.length ⟨⟨x.t, 0, zBs⟩, l.length, false⟩ x.k x.bs d) ((x, false || d) :: ((L ++ [((⟨x.t, 0, zBs⟩ : Wr), false)]).set l.length (⟨x.t, x.k, x.bs⟩, false || d)).eraseIdx l.length) at hu
    rw [eL, Bool.false_or, ← h2.len, eraseIdx_last, h2.len] at hu
    refine (put_new h1 hR x.t x.k x.bs d hx.t hx.k hx.len hx.b (h2.ages (by omega)) hl50 _ l.length _ ⟨hp, rfl, rfl, rfl⟩).mono ?_
    have hpl2 : (l ++ [(⟨⟨x.t, 0, zBs⟩, l.length, false⟩ : Fr)]).length = L.length + 1 := by simp [h2.len]
    rw [hpl2]
    rintro e w' ⟨⟨hle, rfl, hc⟩ | ⟨hle, r, f, hrf, hold, rfl, hc⟩, hs⟩
    · have ep : putM m L x d = (x, d) :: L := by unfold putM; rw [hpl]; simp only; rw [List.take_of_length_le (by rw [List.length_cons]; omega)]
      have eo : outM m L x.t = zE := by unfold outM; rw [if_neg (by omega)]
      refine ⟨by rw [eo]; rfl, ⟨_, hc, by rw [ep]; exact hu, putM_dis h3 x d, putM_len h4 x d⟩, hs⟩
    · have hlen : ((x, d) :: L).length = m + 2 := by rw [List.length_cons]; omega
      have hne : L ≠ [] := fun e => by rw [e] at hle; simp at hle
      have ep : putM m L x d = ((x, d) :: L).dropLast := by unfold putM; rw [hpl]; simp only; rw [List.dropLast_eq_take, hlen]; rfl
      have eo : outM m L x.t = L.getLastD zE := by unfold outM; rw [if_pos ⟨hpl, by omega⟩]
      have hfa := hu.old hrf hold
      have hfl := hu.at_ r f hrf
      have e2 : L.getLastD zE = (f.w, f.d) := by
        rw [hlen] at hfa
        rw [show f.a = L.length - 1 + 1 by omega, List.getElem?_cons_succ] at hfl
        rw [List.getLastD_eq_getLast?, List.getLast?_eq_getElem?, hfl]; rfl
      refine ⟨by rw [eo, e2]; unfold toldE toldF ansW; rfl, ⟨_, hc, by rw [ep]; exact hu.drop hrf hold, putM_dis h3 x d, putM_len h4 x d⟩, hs⟩
  · obtain ⟨f, hf, hft⟩ := posF_is hp
    have hp2 := (h2.pos_some h3 hp hf).1
    have hg := getD_of (h2.at_ k f hf)
    have habs := h2.set hf ⟨f.w.t, x.k, x.bs⟩ (f.d || d)
    have hu := habs.use (set_here hf)
    rw [eraseIdx_set] at hu
    have ew : (⟨f.w.t, x.k, x.bs⟩ : Wr) = x := by rw [hft]
    change Abs (putF l k f x.k x.bs d) ((⟨f.w.t, x.k, x.bs⟩, f.d || d) :: L.eraseIdx f.a) at hu
    rw [ew] at hu
    refine (put_old h1 hR x.t x.k x.bs d hx.t hx.k hx.len hx.b (h2.ages (by omega)) hl50 l k f ⟨hp, hf, rfl⟩).mono ?_
    have ep : putM m L x d = (x, f.d || d) :: L.eraseIdx f.a := by unfold putM; rw [hp2]; simp only; rw [hg]
    have eo : outM m L x.t = zE := by unfold outM; rw [if_neg (by rw [hp2]; simp)]
    rintro e w' ⟨⟨hle, rfl, hc⟩ | ⟨hle, _⟩, hs⟩
    · exact ⟨by rw [eo]; rfl, ⟨_, hc, by rw [ep]; exact hu, putM_dis h3 x d, putM_len h4 x d⟩, hs⟩
    · rw [← h2.len] at hle; omega
end Go.Proofs.Ytbcnjilhibkcnaa
