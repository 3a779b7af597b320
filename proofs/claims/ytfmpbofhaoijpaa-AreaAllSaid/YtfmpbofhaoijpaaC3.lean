/- Contracts: conf.Put and the reference's. -/
import Derived.Test.YtfmpbofhaoijpaaC2
import Derived.Laws.MakeOwn
import Derived.Lib.AppendStr
import Derived.Maps.AppendAt
import Derived.OwnWalk
import Derived.Deep.AppendLies
import Derived.Deep.RegionLaw
import Derived.IntWalk
namespace Go.Proofs.Ytfmpbofhaoijpaa
open Go.ChangeShapes Go.WideShapes Go.ChangeAt Go.RowKit
set_option linter.unusedVariables false
def shB (s : Sh) : List Int := [putV s.l s.c, s.b, s.g, s.f]
def putTo (cs : List Sh) (k : Nat) : List Int := [76, 70, (cs.length : Int)] ++ (cs.take k).flatMap shB
def putL (cs : List Sh) : List Int := if mayConfV cs then putTo cs cs.length else []
theorem putTo_succ {cs : List Sh} {k : Nat} {s : Sh} (h : cs[k]? = some s) : putTo cs (k + 1) = putTo cs k ++ shB s := by
  unfold putTo; rw [take_snoc' h, List.flatMap_append, List.append_assoc]; simp
theorem putTo_length (cs : List Sh) (k : Nat) (hk : k ≤ cs.length) : (putTo cs k).length = 3 + 4 * k := by
  induction k with
  | zero => rfl
  | succ k ih =>
    rw [putTo_succ (List.getElem?_eq_getElem (show k < cs.length by omega)), List.length_append, ih (by omega)]
    unfold shB; simp; omega
theorem may_len {cs : List Sh} (h : mayConfV cs = true) : 1 ≤ cs.length ∧ cs.length ≤ 8 := by
  unfold mayConfV at h; simp only [Bool.and_eq_true, decide_eq_true_eq] at h; exact h.1
theorem may_at {cs : List Sh} (h : mayConfV cs = true) {k : Nat} {s : Sh} (hs : cs[k]? = some s) : mayShV s = true := by
  unfold mayConfV okV at h
  simp only [Bool.and_eq_true, List.all_eq_true] at h
  have hk : k < cs.length := (List.getElem?_eq_some_iff.1 hs).1
  have := h.2 k (List.mem_range.2 hk)
  rw [okAt_some hs, Bool.and_eq_true] at this
  exact this.1
theorem may_nums {s : Sh} (h : mayShV s = true) : mayV s.l s.c = true ∧ 4 ≤ s.b ∧ s.b ≤ 200 ∧ 16 ≤ s.g ∧ s.g ≤ 100 ∧ 1 ≤ s.f ∧ s.f ≤ 50 := by
  unfold mayShV at h
  simp only [Bool.and_eq_true, decide_eq_true_eq] at h
  obtain ⟨⟨⟨⟨⟨⟨m0, m1⟩, m2⟩, m3⟩, m4⟩, m5⟩, m6⟩ := h
  exact ⟨m0, m1, m2, m3, m4, m5, m6⟩
theorem step_append_own {P : Program} (w : World) {ops : Array Oper} {o : Oper} {a : Act} {K : Act → World → Prop} {Q : Exit → Act → World → Prop} {E : Prop} (hgd : o.guard = none) (s x : Operand) (t : TypeId)
    (ho : o.op = .call { callee := .builtin .append, args := #[s, x], argTypes := #[t, t] })
    (base : Nat) (e : TypeId) (i : TypeInfo) (z : Value) (size bytes : Nat) (ht : P.underlying t = some (.slice e)) (hi : P.info? e = some i) (hz : i.zero = some z)
    (hsize : i.size = size) (hby : i.bytes = bytes) (hzs : z.cells.size = size) (hsz : 0 < size)
    (v : Value) (n : Nat) (xs : List Value) (hs : a.eval s = v) (hown : w.ownsRow base e size v n xs)
    (ad : Addr) (m c : Nat) (news : List Value) (hx : a.eval x = .slice (some ad) m c) (hl : news.length = m * size) (hnews : ∀ j u, news[j]? = some u → w.cell? (ad.add j) = some u) (h1 : ∀ u ∈ news, u.oneCell' = true)
    (h63 : n + m ≤ maxLen) (hbytes : (n + m) * bytes ≤ 140737488355328) (hbase : base ≤ w.heap.size)
    (h : ∀ v' w', w'.ownsRow base e size v' (n + m) (xs ++ news) → w.grownBy w' v.ownBlock → (v' = .slice none 0 0 ↔ v = .slice none 0 0 ∧ m = 0) → K (a.put o.dst v') w') :
    if Region.wanted o (yielded ops a.tmps) = true then Oper.wp P o a w K Q else E := by
  have hw : Region.wanted o (yielded ops a.tmps) = true := by simp [Region.wanted, hgd]
  rw [if_pos hw]
  exact wp_append_own w s x t ho base e i z size bytes ht hi hz hsize hby hzs hsz v n xs hs hown ad m c news hx hl hnews h1 h63 hbytes hbase h
theorem own_lit {w W : World} {b t : Nat} {l : List Int} {n : Nat} (hb : b ≤ W.heap.size) (hn : l.length = n) (hn2 : n ≤ 1000) (cs : Array Value) (hc : cs.toList = Bs l) : (W.alloc (.cells cs t)).ownsRow b t 1 (.slice (some ⟨W.heap.size, 0, none⟩) n n) n (Bs l) := by
  have hs : cs.size = n := by rw [← Array.length_toList, hc]; unfold Bs; simpa using hn
  refine ⟨by unfold Bs; simp; omega, .inr ⟨W.heap.size, n, cs, rfl, hb, heap_alloc_new W _, Nat.le_refl _, by simp only [maxLen]; omega, by omega, ?_⟩⟩
  rw [← hc]; exact List.take_of_length_le (by simp; omega)
end Go.Proofs.Ytfmpbofhaoijpaa
