/- Contract: the reference's Below. -/
import Derived.Test.YtfmpbofhaoijpaaD1
namespace Go.Proofs.Ytfmpbofhaoijpaa
open Go.ChangeShapes Go.WideShapes Go.ChangeAt Go.RowKit
set_option linter.unusedVariables false
theorem step_app {P : Program} {V w : World} {ops : Array Oper} {o : Oper} {a : Act} {K : Act → World → Prop} {Q : Exit → Act → World → Prop} {E : Prop} (hgd : o.guard = none) (s x : Operand) (t : TypeId)
    (ho : o.op = .call { callee := .builtin .append, args := #[s, x], argTypes := #[t, t] })
    (e : TypeId) (i : TypeInfo) (z : Value) (size bytes : Nat) (ht : P.underlying t = some (.slice e)) (hi : P.info? e = some i) (hz : i.zero = some z)
    (hsize : i.size = size) (hby : i.bytes = bytes) (hzs : z.cells.size = size) (hsz : 0 < size)
    (v : Value) (n : Nat) (xs : List Value) (hs : a.eval s = v) (hB : Below V.heap.size V w) (hown : w.ownsRow V.heap.size e size v n xs)
    (ad : Addr) (m c : Nat) (news : List Value) (hx : a.eval x = .slice (some ad) m c) (hl : news.length = m * size) (hnews : ∀ j u, news[j]? = some u → w.cell? (ad.add j) = some u) (h1 : ∀ u ∈ news, u.oneCell' = true)
    (h63 : n + m ≤ 1000) (hbytes : bytes ≤ 1000)
    (h : ∀ v' w', Below V.heap.size V w' → w'.ownsRow V.heap.size e size v' (n + m) (xs ++ news) → w.grownBy w' v.ownBlock → K (a.put o.dst v') w') :
    if Region.wanted o (yielded ops a.tmps) = true then Oper.wp P o a w K Q else E :=
  step_append_own w hgd s x t ho V.heap.size e i z size bytes ht hi hz hsize hby hzs hsz v n xs hs hown ad m c news hx hl hnews h1 (by simp only [maxLen]; omega)
    (by have := Nat.mul_le_mul h63 hbytes; omega) hB.size (fun v' w' h2 h3 _ => h v' w' (grownB hB hown h3) h2 h3)
theorem add_posD (a : Addr) (k : Nat) (h : 0 < k) : a.add k = ⟨a.block, a.off + k, none⟩ := by unfold Addr.add; rw [if_neg (by omega)]
theorem ownDrew {W : World} {b e sz n : Nat} {v : Value} {xs : List Value} (h : W.ownsRow b e sz v n xs) : W.drew.ownsRow b e sz v n xs := h
theorem block_of_addD (a : Addr) (n : Nat) : (a.add n).block = a.block := by unfold Addr.add; split <;> rfl
theorem own_second (V : World) (I : Obj) : ((V.alloc I).alloc (Obj.cells #[] 3)).drew.ownsRow V.heap.size 3 1 (.slice (some ⟨V.heap.size + 1, 0, none⟩) 0 0) 0 [] := by
  have h := own_lit' (W := V.alloc I) (b := V.heap.size) (t := 3) (l := []) (n := 0) (by simp) rfl (by omega) #[] rfl
  have e : (V.alloc I).heap.size = V.heap.size + 1 := by simp
  rw [e] at h
  exact h
theorem cell_second (V : World) (E : Obj) (x : Value) : ∀ j u, [x][j]? = some u → ((V.alloc E).alloc (Obj.cells #[x] 3)).drew.cell? ((⟨V.heap.size + 1, 0, none⟩ : Addr).add j) = some u := fun j u hu => by
  have h := cell_one_new (V.alloc E) x 3 j u hu
  have e : (V.alloc E).heap.size = V.heap.size + 1 := by simp
  rw [e] at h
  exact h
theorem news_b {V w1 : World} {E : Obj} {x : Value} {n c : Nat} (g : ((V.alloc E).alloc (Obj.cells #[x] 3)).drew.grownBy w1 (Value.slice (some ⟨V.heap.size, 0, none⟩) n c).ownBlock) :
    ∀ j u, [x][j]? = some u → w1.cell? ((⟨V.heap.size + 1, 0, none⟩ : Addr).add j) = some u := fun j u hu =>
  g.cell (cell_second V E x j u hu) (by rw [block_of_addD]; simp [Value.ownBlock])
theorem news_c {V w1 : World} {E : Obj} {x : Value} {n c : Nat} (g : ((V.alloc (Obj.cells #[x] 3)).alloc E).drew.grownBy w1 (Value.slice (some ⟨V.heap.size + 1, 0, none⟩) n c).ownBlock) :
    ∀ j u, [x][j]? = some u → w1.cell? ((⟨V.heap.size, 0, none⟩ : Addr).add j) = some u := fun j u hu =>
  g.cell (show ((V.alloc (Obj.cells #[x] 3)).alloc E).drew.cell? _ = _ from keepA (cell_one_new V x 3 j u hu) E) (by rw [block_of_addD]; simp [Value.ownBlock])
theorem belA {V W : World} (h : Below V.heap.size V W) (o : Obj) : Below V.heap.size V (W.alloc o) := h.alloc h.size o
theorem ownMore {W : World} {b b' e sz n : Nat} {v : Value} {xs : List Value} (h : W.ownsRow b e sz v n xs) (hb : b' ≤ b) : W.ownsRow b' e sz v n xs := by
  refine ⟨h.1, ?_⟩
  rcases h.2 with h | ⟨g, cap, cur, e1, e2, rest⟩
  · exact .inl h
  · exact .inr ⟨g, cap, cur, e1, by omega, rest⟩
/-- So far. -/
def SoFar (cs : List Sh) (me k : Nat) (t : List Int) : Prop := t.Perm (selTo cs me k) ∧ t.Pairwise (fun x y => rk cs y < rk cs x)
theorem SoFar.ins {cs : List Sh} (hm : mayConfV cs = true) {me k : Nat} {t : List Int} (h : SoFar cs me k t) (hk : k < cs.length) (hkm : k ≠ me) (hs : sees cs me k = true) (p : Nat)
    (h1 : ∀ x ∈ t.take p, rk cs k < rk cs x) (h2 : ∀ x, t[p]? = some x → ¬ rk cs k < rk cs x) : SoFar cs me (k + 1) (t.take p ++ [(k : Int)] ++ t.drop p) := by
  have hmem : ∀ x ∈ t, InR cs x ∧ x < k := fun x hx => by
    have := selTo_mem (h.1.mem_iff.1 hx)
    exact ⟨⟨this.1, by omega⟩, this.2.1⟩
  have hkr : InR cs (k : Int) := ⟨by omega, by omega⟩
  have hlow : ∀ x ∈ t.drop p, rk cs x < rk cs k := by
    have hpw := h.2
    rw [List.pairwise_iff_getElem] at hpw
    intro x hx
    obtain ⟨j, hj, rfl⟩ := List.getElem_of_mem hx
    rw [List.getElem_drop] at *
    have hj' : p + j < t.length := by rw [List.length_drop] at hj; omega
    have hp : p < t.length := by omega
    have hnp := h2 t[p] (List.getElem?_eq_getElem hp)
    have hne : rk cs t[p] ≠ rk cs k := fun e => by
      have := rk_inj hm (hmem _ (List.getElem_mem hp)).1 hkr e
      have := (hmem _ (List.getElem_mem hp)).2
      omega
    rcases Nat.eq_zero_or_pos j with rfl | hj0
    · simp only [Nat.add_zero]; omega
    · have := hpw p (p + j) hp hj' (by omega); omega
  constructor
  · rw [selTo_yes hkm hs]
    refine List.Perm.trans ?_ (h.1.append_right _)
    rw [List.append_assoc]
    refine List.Perm.trans (List.Perm.append_left _ List.perm_append_comm) ?_
    rw [← List.append_assoc, List.take_append_drop]
  · have hpw := h.2
    rw [← List.take_append_drop p t, List.pairwise_append] at hpw
    rw [List.pairwise_append, List.pairwise_append]
    refine ⟨⟨hpw.1, List.pairwise_singleton _ _, fun x hx y hy => by rw [List.mem_singleton.1 hy]; exact h1 x hx⟩, hpw.2.1, fun x hx y hy => ?_⟩
    rcases List.mem_append.1 hx with hx | hx
    · exact hpw.2.2 x hx y hy
    · rw [List.mem_singleton.1 hx]; exact hlow y hy
end Go.Proofs.Ytfmpbofhaoijpaa
