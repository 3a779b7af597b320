/- Which of so many in a row are near, one being got again and again. Of no function. -/
import Derived.Test.YtbcnjilhibkcnaaKt
namespace Go.Proofs.Ytbcnjilhibkcnaa
open Go.ChangeShapes Go.WideShapes Go.ChangeAt Go.RowKit
set_option linter.unusedVariables false
/-- The last c below n, but for v. -/
def lastN (v : Nat) : Nat → Nat → List Nat
  | 0, _ => []
  | _ + 1, 0 => []
  | n + 1, c + 1 => if n = v then lastN v n (c + 1) else n :: lastN v n c
theorem lastN_take (v : Nat) : ∀ (n c c' : Nat), c' ≤ c → (lastN v n c).take c' = lastN v n c'
  | 0, c, c', _ => by unfold lastN; simp
  | n + 1, 0, c', h => by obtain rfl : c' = 0 := by omega
                          rfl
  | n + 1, c + 1, 0, h => by simp [lastN]
  | n + 1, c + 1, c' + 1, h => by
    unfold lastN
    split
    · exact lastN_take v n (c + 1) (c' + 1) h
    · rw [List.take_succ_cons, lastN_take v n c c' (by omega)]
theorem lastN_mem (v t : Nat) : ∀ (n c : Nat), t ∈ lastN v n c ↔ (t < n ∧ t ≠ v ∧ n - 1 - t < c + (if t < v ∧ v < n then 1 else 0))
  | 0, c => by simp [lastN]
  | n + 1, 0 => by
    unfold lastN
    simp only [List.not_mem_nil, false_iff]
    split <;> omega
  | n + 1, c + 1 => by
    unfold lastN
    split
    · rename_i h
      rw [lastN_mem v t n (c + 1)]
      subst h
      by_cases h1 : t < n
      · rw [if_neg (by omega), if_pos (by omega)]; omega
      · rw [if_neg (by omega), if_neg (by omega)]; omega
    · rename_i h
      rw [List.mem_cons, lastN_mem v t n c]
      by_cases h1 : t < v ∧ v < n
      · rw [if_pos h1, if_pos (by omega)]; omega
      · rw [if_neg h1, if_neg (by omega)]; omega
theorem lastN_len (v : Nat) : ∀ (n c : Nat), (lastN v n c).length = min c (n - (if v < n then 1 else 0))
  | 0, c => by simp [lastN]
  | n + 1, 0 => by simp [lastN]
  | n + 1, c + 1 => by
    unfold lastN
    split
    · rename_i h
      rw [lastN_len v n (c + 1)]
      subst h
      rw [if_neg (by omega), if_pos (by omega)]; omega
    · rename_i h
      rw [List.length_cons, lastN_len v n c]
      by_cases h1 : v < n
      · rw [if_pos h1, if_pos (by omega)]; omega
      · rw [if_neg h1, if_neg (by omega)]; omega
def kF (f v n : Nat) : List Nat := if n ≤ v then lastN v n f else v :: lastN v n (f - 1)
theorem kF_len {f v n : Nat} (hf : 2 ≤ f) : (kF f v n).length = min n f := by
  unfold kF
  split
  · rw [lastN_len, if_neg (by omega)]; omega
  · rw [List.length_cons, lastN_len, if_pos (by omega)]; omega
theorem kF_mem {f v n t : Nat} (hf : 2 ≤ f) (ht : t < n) (hv : v ≤ n) : t ∈ kF f v n ↔ if (v : Int) < (n : Int) - f then (t = v ∨ (n : Int) - f < t) else (n : Int) - f ≤ t := by
  unfold kF
  split
  · rw [lastN_mem, if_neg (by omega), if_neg (by omega)]; omega
  · rw [List.mem_cons, lastN_mem]
    by_cases h1 : t < v ∧ v < n
    · rw [if_pos h1]; split <;> omega
    · rw [if_neg h1]; split <;> omega
theorem kF_lt {f v n t : Nat} (h : t ∈ kF f v n) (hv : n ≤ v ∨ v < n) : t < n := by
  unfold kF at h
  split at h
  · exact ((lastN_mem v t n f).1 h).1
  · rcases List.mem_cons.1 h with rfl | h
    · omega
    · exact ((lastN_mem v t n (f - 1)).1 h).1
def entN (t : Nat) : Ent := (⟨t, t, zBs⟩, false)
def LF (f v n : Nat) : List Ent := (kF f v n).map entN
theorem posL_ent_no {ks : List Nat} {t : Nat} (h : t ∉ ks) : posL (ks.map entN) t = none := posL_none fun a x hx => by
  rw [List.getElem?_map] at hx
  obtain ⟨y, hy, rfl⟩ := Option.map_eq_some_iff.1 hx
  intro e
  have e' : (y : Int) = t := e
  have : y = t := by omega
  subst this
  exact h (List.mem_of_getElem? hy)
theorem posL_ent_some {ks : List Nat} {t : Nat} (h : t ∈ ks) : ∃ a, posL (ks.map entN) t = some a ∧ ks[a]? = some t := by
  rcases hp : posL (ks.map entN) t with _ | a
  · obtain ⟨b, hb⟩ := List.mem_iff_getElem?.1 h
    exact absurd rfl (posL_no hp b (entN t) (by rw [List.getElem?_map, hb]; rfl))
  · obtain ⟨x, hx, hxt⟩ := posL_is hp
    rw [List.getElem?_map] at hx
    obtain ⟨y, hy, rfl⟩ := Option.map_eq_some_iff.1 hx
    have e' : (y : Int) = t := hxt
    have : y = t := by omega
    subst this
    exact ⟨a, rfl, hy⟩
theorem ansM_ent (ks : List Nat) (t : Nat) : ansM (ks.map entN) t = if t ∈ ks then ansB t zBs true else ansB 0 zBs false := by
  by_cases h : t ∈ ks
  · obtain ⟨a, h1, h2⟩ := posL_ent_some h
    rw [if_pos h]; unfold ansM; rw [h1]; simp only
    rw [getD_of (x := entN t) (by rw [List.getElem?_map, h2]; rfl)]; rfl
  · rw [if_neg h]; unfold ansM; rw [posL_ent_no h]
/-- One is put. -/
def kP (f v n : Nat) : List Nat := (n :: kF f v n).take f
theorem LF_put {f v n m : Nat} (hm : m + 1 = f) : putM m (LF f v n) ⟨n, n, zBs⟩ false = (kP f v n).map entN := by
  have hn : n ∉ kF f v n := fun h => by
    have := kF_lt h (by omega); omega
  unfold putM LF kP
  rw [posL_ent_no hn, hm, List.map_take]; rfl
theorem kP_low {f v n : Nat} (hf : 2 ≤ f) (h : n < v) : kP f v n = kF f v (n + 1) := by
  obtain ⟨c, rfl⟩ : ∃ c, f = c + 1 := ⟨f - 1, by omega⟩
  unfold kP kF
  rw [if_pos (by omega), if_pos (by omega), List.take_succ_cons, lastN_take v n (c + 1) c (by omega)]
  show _ = if n = v then _ else _
  rw [if_neg (by omega)]
theorem kP_at {f v : Nat} (hf : 2 ≤ f) : kP f v v = kF f v (v + 1) := by
  obtain ⟨c, rfl⟩ : ∃ c, f = c + 2 := ⟨f - 2, by omega⟩
  unfold kP kF
  rw [if_pos (by omega), if_neg (by omega), List.take_succ_cons, lastN_take v v (c + 2) (c + 1) (by omega)]
  show _ = v :: if v = v then _ else _
  rw [if_pos rfl]
theorem kP_high {f v n : Nat} (hf : 2 ≤ f) (h : v < n) : ∃ r, kP f v n = n :: v :: r ∧ kF f v (n + 1) = v :: n :: r := by
  obtain ⟨c, rfl⟩ : ∃ c, f = c + 2 := ⟨f - 2, by omega⟩
  refine ⟨lastN v n c, ?_, ?_⟩
  · unfold kP kF
    rw [if_neg (by omega), List.take_succ_cons, List.take_succ_cons, show c + 2 - 1 = c + 1 by omega, lastN_take v n (c + 1) c (by omega)]
  · unfold kF
    rw [if_neg (by omega)]
    show _ :: (if n = v then _ else _) = _
    rw [if_neg (by omega)]
/-- v is got. -/
theorem LF_get {f v n : Nat} (hf : 2 ≤ f) (h : v ≤ n) : getM ((kP f v n).map entN) v = LF f v (n + 1) ∧ v ∈ kP f v n := by
  rcases Nat.lt_or_eq_of_le h with h | rfl
  · obtain ⟨r, h1, h2⟩ := kP_high hf h
    unfold LF
    rw [h1, h2]
    refine ⟨?_, by simp⟩
    have hp : posL ((n :: v :: r).map entN) v = some 1 := by
      unfold posL
      have e1 : decide ((entN n).1.t = (v : Int)) = false := decide_eq_false (fun e => by have e' : (n : Int) = v := e; omega)
      have e2 : decide ((entN v).1.t = (v : Int)) = true := by simp [entN]
      simp only [List.map_cons, List.findIdx?_cons, e1, e2]
      rfl
    unfold getM
    rw [hp]; rfl
  · rw [kP_at hf]
    have hk : ∃ r, kF f v (v + 1) = v :: r := ⟨_, by unfold kF; rw [if_neg (by omega)]⟩
    obtain ⟨r, hr⟩ := hk
    unfold LF
    rw [hr]
    refine ⟨?_, by simp⟩
    have hp : posL ((v :: r).map entN) v = some 0 := by
      unfold posL
      have e2 : decide ((entN v).1.t = (v : Int)) = true := by simp [entN]
      simp only [List.map_cons, List.findIdx?_cons, e2]
      rfl
    unfold getM
    rw [hp]; rfl
theorem LF_low {f v n : Nat} (hf : 2 ≤ f) (h : n < v) : (kP f v n).map entN = LF f v (n + 1) := by unfold LF; rw [kP_low hf h]
theorem LF_len {f v n : Nat} (hf : 2 ≤ f) : (LF f v n).length = min n f := by unfold LF; rw [List.length_map, kF_len hf]
end Go.Proofs.Ytbcnjilhibkcnaa
