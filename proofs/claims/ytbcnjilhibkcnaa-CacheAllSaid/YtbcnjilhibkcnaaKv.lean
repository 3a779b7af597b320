/- Nothing dirty is lost: what is near, or was told as it went, is the last that was put. Of no function. -/
import Derived.Test.YtbcnjilhibkcnaaKt
namespace Go.Proofs.Ytbcnjilhibkcnaa
open Go.ChangeShapes Go.WideShapes Go.ChangeAt Go.RowKit
set_option linter.unusedVariables false
def IsA (l : List Int) : Array Value := (l.map (Value.int .i64)).toArray
theorem IsA_at {l : List Int} {k : Nat} {x : Int} (h : l[k]? = some x) : (IsA l)[k]? = some (.int .i64 x) := by unfold IsA; simp [h]
theorem IsA_set (l : List Int) (k : Nat) (x : Int) : (IsA l).setIfInBounds k (.int .i64 x) = IsA (l.set k x) := by unfold IsA; simp [List.map_set]
/-- What is got of t is g: near, or told. -/
def Got (L : List Ent) (O : List Int) (t : Nat) (g : Int) : Prop := (∃ x ∈ L, x.1.t = (t : Int) ∧ g = x.1.k) ∨ ((∀ x ∈ L, x.1.t ≠ (t : Int)) ∧ O[t]? = some g)
structure Kept16 (L : List Ent) (O Wn : List Int) : Prop where
  lo : O.length = 16
  lw : Wn.length = 16
  all : ∀ x ∈ L, x.2 = true ∧ 0 ≤ x.1.t ∧ x.1.t ≤ 15 ∧ 0 ≤ x.1.k ∧ x.1.k ≤ 100
  got : ∀ (t : Nat) (g : Int), Wn[t]? = some g → Got L O t g
theorem Kept16.start : Kept16 [] (List.replicate 16 0) (List.replicate 16 0) := ⟨rfl, rfl, fun x hx => (by cases hx), fun t g h => .inr ⟨fun x hx => (by cases hx), h⟩⟩
/-- What was told, written down. -/
def outO (O : List Int) (x : Ent) : List Int := if x.2 then O.set x.1.t.toNat x.1.k else O
theorem posL_mem_no {L : List Ent} {t : Int} (h : posL L t = none) : ∀ x ∈ L, x.1.t ≠ t := fun x hx => by
  obtain ⟨a, ha⟩ := List.mem_iff_getElem?.1 hx
  exact posL_no h a x ha
theorem mem_erase_ne {L : List Ent} {a : Nat} {x y : Ent} (hy : L[a]? = some y) (hx : x ∈ L) (hne : x.1.t ≠ y.1.t) : x ∈ L.eraseIdx a := by
  have h : x ∈ y :: L.eraseIdx a := (perm_erase hy).symm.subset hx
  rcases List.mem_cons.1 h with rfl | h
  · exact absurd rfl hne
  · exact h
theorem Kept16.put {m : Nat} {L : List Ent} {O Wn : List Int} (h : Kept16 L O Wn) (hd : Dis L) (hl : L.length ≤ m + 1) {t : Nat} (ht : t < 16) {c : Int} (hc : 0 ≤ c ∧ c ≤ 100) :
    Kept16 (putM m L ⟨t, c, zBs⟩ true) (outO O (outM m L t)) (Wn.set t c) ∧ ((outM m L t).2 = true → 0 ≤ (outM m L t).1.t ∧ (outM m L t).1.t ≤ 15 ∧ (outM m L t).1.t ≠ t) := by
  have htw : t < Wn.length := by rw [h.lw]; exact ht
  have wset : ∀ {u : Nat} {g : Int}, (Wn.set t c)[u]? = some g → (u = t ∧ g = c) ∨ (u ≠ t ∧ Wn[u]? = some g) := fun {u g} hg => by
    rcases set_char hg with ⟨h1, h2⟩ | h1
    · exact .inl ⟨h1, h2⟩
    · exact .inr h1
  rcases hp : posL L t with _ | a
  · have hno := posL_mem_no hp
    by_cases hfull : m + 1 ≤ L.length
    · have hlen : L.length = m + 1 := by omega
      have hne : L ≠ [] := fun e => by rw [e] at hlen; simp at hlen
      obtain ⟨I, x, rfl⟩ : ∃ I x, L = I ++ [x] := by
        rcases List.eq_nil_or_concat L with e | ⟨I, x, e⟩
        · exact absurd e hne
        · exact ⟨I, x, by rw [e, List.concat_eq_append]⟩
      have hI : I.length = m := by simpa using hlen
      have eo : outM m (I ++ [x]) t = x := by unfold outM; rw [if_pos ⟨hp, hfull⟩]; simp
      have ep : putM m (I ++ [x]) ⟨t, c, zBs⟩ true = (⟨t, c, zBs⟩, true) :: I := by
        unfold putM; rw [hp]; simp only
        rw [List.take_succ_cons, ← hI, List.take_left']; rfl
      obtain ⟨hx1, hx2, hx3, hx4, hx5⟩ := h.all x (by simp)
      have hxt : x.1.t ≠ (t : Int) := hno x (by simp)
      have hdI : ∀ z ∈ I, z.1.t ≠ x.1.t := fun z hz e => by
        unfold Dis at hd
        rw [List.map_append, List.nodup_append] at hd
        exact hd.2.2 _ (List.mem_map.2 ⟨z, hz, rfl⟩) x.1.t (by simp) e
      rw [eo, ep]
      refine ⟨⟨by unfold outO; split <;> simp [h.lo], by simp [h.lw], fun z hz => ?_, fun u g hg => ?_⟩, fun _ => ⟨hx2, hx3, hxt⟩⟩
      · rcases List.mem_cons.1 hz with rfl | hz
        · exact ⟨rfl, by show (0 : Int) ≤ (t : Int); omega, by show (t : Int) ≤ 15; omega, hc.1, hc.2⟩
        · exact h.all z (by simp [hz])
      · rcases wset hg with ⟨rfl, rfl⟩ | ⟨hut, hg⟩
        · exact .inl ⟨_, List.mem_cons_self, rfl, rfl⟩
        · unfold outO
          rw [if_pos hx1]
          by_cases hux : x.1.t = (u : Int)
          · refine .inr ⟨fun z hz => ?_, ?_⟩
            · rcases List.mem_cons.1 hz with rfl | hz
              · show (t : Int) ≠ u; omega
              · rw [← hux]; exact hdI z hz
            · have eu : x.1.t.toNat = u := by omega
              have hu16 : u < O.length := by rw [h.lo]; omega
              rw [eu, List.getElem?_set_self hu16]
              rcases h.got u g hg with ⟨z, hz, hzt, rfl⟩ | ⟨hall, _⟩
              · rcases List.mem_append.1 hz with hz | hz
                · exact absurd (by rw [hzt, hux]) (hdI z hz)
                · simp only [List.mem_singleton] at hz; rw [hz]
              · exact absurd hux (hall x (by simp))
          · rcases h.got u g hg with ⟨z, hz, hzt, hgk⟩ | ⟨hall, hO⟩
            · refine .inl ⟨z, ?_, hzt, hgk⟩
              rcases List.mem_append.1 hz with hz | hz
              · exact List.mem_cons_of_mem _ hz
              · simp only [List.mem_singleton] at hz; rw [hz] at hzt; exact absurd hzt hux
            · refine .inr ⟨fun z hz => ?_, ?_⟩
              · rcases List.mem_cons.1 hz with rfl | hz
                · show (t : Int) ≠ u; omega
                · exact hall z (by simp [hz])
              · rw [List.getElem?_set_ne (by omega)]; exact hO
    · have eo : outM m L t = zE := by unfold outM; rw [if_neg (by omega)]
      have ep : putM m L ⟨t, c, zBs⟩ true = (⟨t, c, zBs⟩, true) :: L := by
        unfold putM; rw [hp]; simp only; rw [List.take_of_length_le (by rw [List.length_cons]; omega)]
      rw [eo, ep]
      refine ⟨⟨by simp [outO, zE, h.lo], by simp [h.lw], fun z hz => ?_, fun u g hg => ?_⟩, fun e => by cases e⟩
      · rcases List.mem_cons.1 hz with rfl | hz
        · exact ⟨rfl, by show (0 : Int) ≤ (t : Int); omega, by show (t : Int) ≤ 15; omega, hc.1, hc.2⟩
        · exact h.all z hz
      · rcases wset hg with ⟨rfl, rfl⟩ | ⟨hut, hg⟩
        · exact .inl ⟨_, List.mem_cons_self, rfl, rfl⟩
        · rcases h.got u g hg with ⟨z, hz, hzt, hgk⟩ | ⟨hall, hO⟩
          · exact .inl ⟨z, List.mem_cons_of_mem _ hz, hzt, hgk⟩
          · refine .inr ⟨fun z hz => ?_, hO⟩
            rcases List.mem_cons.1 hz with rfl | hz
            · show (t : Int) ≠ u; omega
            · exact hall z hz
  · obtain ⟨y, hy, hyt⟩ := posL_is hp
    have eo : outM m L t = zE := by unfold outM; rw [if_neg (by rw [hp]; simp)]
    have ep : putM m L ⟨t, c, zBs⟩ true = (⟨t, c, zBs⟩, true) :: L.eraseIdx a := by
      unfold putM; rw [hp]; simp only; rw [Bool.or_true]
    rw [eo, ep]
    refine ⟨⟨by simp [outO, zE, h.lo], by simp [h.lw], fun z hz => ?_, fun u g hg => ?_⟩, fun e => by cases e⟩
    · rcases List.mem_cons.1 hz with rfl | hz
      · exact ⟨rfl, by show (0 : Int) ≤ (t : Int); omega, by show (t : Int) ≤ 15; omega, hc.1, hc.2⟩
      · exact h.all z (List.mem_of_mem_eraseIdx hz)
    · rcases wset hg with ⟨rfl, rfl⟩ | ⟨hut, hg⟩
      · exact .inl ⟨_, List.mem_cons_self, rfl, rfl⟩
      · rcases h.got u g hg with ⟨z, hz, hzt, hgk⟩ | ⟨hall, hO⟩
        · exact .inl ⟨z, List.mem_cons_of_mem _ (mem_erase_ne hy hz (by rw [hzt, hyt]; omega)), hzt, hgk⟩
        · refine .inr ⟨fun z hz => ?_, hO⟩
          rcases List.mem_cons.1 hz with rfl | hz
          · show (t : Int) ≠ u; omega
          · exact hall z (List.mem_of_mem_eraseIdx hz)
/-- What Peek tells of t, held against what is wanted. -/
theorem Kept16.peek {L : List Ent} {O Wn : List Int} (h : Kept16 L O Wn) (hd : Dis L) {t : Nat} {g o : Int} (hg : Wn[t]? = some g) (ho : O[t]? = some o) :
    (∃ bs, bs.length = 56 ∧ ansM L t = ansB g bs true) ∨ (ansM L t = ansB 0 zBs false ∧ o = g) ∨ (∃ x ∈ L, x.1.bs.length ≠ 56) := by
  rcases h.got t g hg with ⟨x, hx, hxt, rfl⟩ | ⟨hall, hO⟩
  · obtain ⟨a, ha⟩ := List.mem_iff_getElem?.1 hx
    have hp := posL_some hd ha hxt
    by_cases h56 : x.1.bs.length = 56
    · left
      exact ⟨x.1.bs, h56, by unfold ansM; rw [hp]; simp only; rw [getD_of ha]⟩
    · exact .inr (.inr ⟨x, hx, h56⟩)
  · right; left
    refine ⟨?_, ?_⟩
    · unfold ansM
      rw [posL_none fun a x hx => hall x (List.mem_of_getElem? hx)]
    · rw [ho] at hO; injection hO
theorem Cached.ok {w : World} {g m : Nat} {L : List Ent} {R : Nat → Prop} (h : Cached w g m L R) : ∀ x ∈ L, x.1.Ok := fun x hx => by
  obtain ⟨l, ⟨v, h1⟩, h2, _⟩ := h
  obtain ⟨a, ha⟩ := List.mem_iff_getElem?.1 hx
  have hlt := (List.getElem?_eq_some_iff.1 ha).1
  rw [h2.len] at hlt
  obtain ⟨i, f, hf, hfa⟩ := h2.sur a hlt
  have := h2.at_ i f hf
  rw [hfa, ha] at this; injection this with this; subst this
  exact h1.ok.at hf
theorem Cached.dis {w : World} {g m : Nat} {L : List Ent} {R : Nat → Prop} (h : Cached w g m L R) : Dis L := let ⟨_, _, _, h3, _⟩ := h; h3
theorem Cached.len {w : World} {g m : Nat} {L : List Ent} {R : Nat → Prop} (h : Cached w g m L R) : L.length ≤ m + 1 := let ⟨_, _, _, _, h4⟩ := h; h4
theorem outM_len {L : List Ent} (h : ∀ x ∈ L, x.1.Ok) (m : Nat) (t : Int) : (outM m L t).1.bs.length = 56 := by
  unfold outM
  split
  · rcases List.eq_nil_or_concat L with rfl | ⟨I, x, rfl⟩
    · exact zW_len
    · rw [List.concat_eq_append] at *
      simp only [List.getLastD_eq_getLast?, List.getLast?_append, List.getLast?_singleton]
      exact (h x (by simp)).len
  · exact zW_len
section
variable {ops : Array Oper} {rest : List Oper} {o : Oper} {a : Act} {w : World} {Q : Exit → Act → World → Prop}
theorem info16 : (Try.prog.info? 49).map (fun i => (i.zero, i.size, i.bytes)) = some (some (.agg (IsA (List.replicate 16 0))), 16, 128) := by kernel_rfl
theorem wpList_alloc16 (hgd : o.guard = none) (ho : o.op = .alloc 49)
    (h : wpList Try.prog ops Q rest (a.put o.dst (.pointer (some ⟨w.heap.size, 0, none⟩))) (w.alloc (.cells (IsA (List.replicate 16 0)) 49))) : wpList Try.prog ops Q (o :: rest) a w := by
  obtain ⟨i0, hi, hz0, hz1, hz2⟩ := info_parts info16
  exact wpList_plain hgd fun _ hK => wp_alloc_of 49 ho i0 _ hi hz0 (hK _ _ h)
end
theorem stp_set (W : World) (g i : Nat) (u : Value) : Stp (fun k => k = g) W (W.setCell ⟨g, i, none⟩ u) := (Stp.refl (fun k => k = g) W).setCell (a := ⟨g, i, none⟩) (fun _ => rfl) u
end Go.Proofs.Ytbcnjilhibkcnaa
