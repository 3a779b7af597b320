/- Arguments that are configs, or bytes, opened to cells. -/
import Derived.Test.YtlmbkfdpgmmacaaC6
import Derived.Deep.Slices
import Derived.Deep.Fields
import Derived.ChangeSame
import Derived.ProofKit
import Derived.OpenShut
import Derived.Carry
import Derived.Lib.SmallJoins
namespace Go.Proofs.Ytlmbkfdpgmmacaa
open Go.ChangeShapes Go.WideShapes Go.ChangeAt Go.RowKit Go.Deep
set_option linter.unusedVariables false
section
variable {H : Type} {enc : TypeId × Value → H} {w : World} {base : Nat} {spare : Nat → Bool} {held : Bool}
theorem cells45 : Try.prog.cellsOf 45 = 2 := by kernel_rfl
theorem cells47 : Try.prog.cellsOf 47 = 5 := by kernel_rfl
theorem cells3' : Try.prog.cellsOf 3 = 1 := by kernel_rfl
theorem cells5' : Try.prog.cellsOf 5 = 1 := by kernel_rfl
theorem wf_i64 {n : Int} (h : (Lit.int .i64 n).wf = true) : i64 n := by
  have := bounds_i64 h; constructor <;> omega
theorem open_share {fuel : Nat} {cs : List Value} {x : DataW H × List MemPlace} (h : DataW.trod enc Try.prog w base spare held fuel 47 cs = some x) :
    ∃ s : Sh, cs = s.cs ∧ ShOk s := by
  obtain ⟨xs, n, _, hx, hlen, hxl, hf⟩ := DataW.trod_struct Try.underlying47 h
  rw [cells47] at hlen
  match cs, hlen with
  | [c0, c1, c2, c3, c4], _ =>
    have e0 : DataW.trod enc Try.prog w base spare held n 45 (([c0, c1, c2, c3, c4].drop 0).take (Try.prog.cellsOf 45)) = xs[0]? := hf 0 _ rfl
    have e1 : DataW.trod enc Try.prog w base spare held n 3 (([c0, c1, c2, c3, c4].drop 2).take (Try.prog.cellsOf 3)) = xs[1]? := hf 1 _ rfl
    have e2 : DataW.trod enc Try.prog w base spare held n 3 (([c0, c1, c2, c3, c4].drop 3).take (Try.prog.cellsOf 3)) = xs[2]? := hf 2 _ rfl
    have e3 : DataW.trod enc Try.prog w base spare held n 3 (([c0, c1, c2, c3, c4].drop 4).take (Try.prog.cellsOf 3)) = xs[3]? := hf 3 _ rfl
    rw [cells45] at e0
    rw [cells3'] at e1 e2 e3
    have hs : ∀ i, i < 4 → ∃ y, xs[i]? = some y := fun i hi => ⟨_, List.getElem?_eq_getElem (by rw [hxl]; exact hi)⟩
    obtain ⟨y0, h0⟩ := hs 0 (by omega)
    obtain ⟨y1, h1⟩ := hs 1 (by omega)
    obtain ⟨y2, h2⟩ := hs 2 (by omega)
    obtain ⟨y3, h3⟩ := hs 3 (by omega)
    rw [h0] at e0
    rw [h1] at e1
    rw [h2] at e2
    rw [h3] at e3
    obtain ⟨b, eb, _, wb⟩ := DataW.trod_int Try.underlying3 e1
    obtain ⟨g, eg, _, wg⟩ := DataW.trod_int Try.underlying3 e2
    obtain ⟨f, ef, _, wf⟩ := DataW.trod_int Try.underlying3 e3
    obtain ⟨zs, m, _, _, _, hzl, hg⟩ := DataW.trod_struct Try.underlying45 e0
    have d0 : DataW.trod enc Try.prog w base spare held m 3 ((([c0, c1] : List Value).drop 0).take (Try.prog.cellsOf 3)) = zs[0]? := hg 0 _ rfl
    have d1 : DataW.trod enc Try.prog w base spare held m 3 ((([c0, c1] : List Value).drop 1).take (Try.prog.cellsOf 3)) = zs[1]? := hg 1 _ rfl
    rw [cells3'] at d0 d1
    obtain ⟨z0, q0⟩ : ∃ y, zs[0]? = some y := ⟨_, List.getElem?_eq_getElem (by rw [hzl]; decide)⟩
    obtain ⟨z1, q1⟩ : ∃ y, zs[1]? = some y := ⟨_, List.getElem?_eq_getElem (by rw [hzl]; decide)⟩
    rw [q0] at d0
    rw [q1] at d1
    obtain ⟨l, el, _, wl⟩ := DataW.trod_int Try.underlying3 d0
    obtain ⟨c, ec, _, wc⟩ := DataW.trod_int Try.underlying3 d1
    injection eb with eb
    injection eg with eg
    injection ef with ef
    injection el with el
    injection ec with ec
    exact ⟨⟨l, c, b, g, f⟩, by rw [eb, eg, ef, el, ec]; rfl, wf_i64 wl, wf_i64 wc⟩
theorem open_conf {fuel : Nat} {cs : List Value} {x : DataW H × List MemPlace} (h : DataW.trod enc Try.prog w base spare held fuel 23 cs = some x) :
    ∃ (A : Option Addr) (sh : List Sh) (d : Nat), cs = [.slice A sh.length d] ∧ sh.length ≤ d ∧ d ≤ 9223372036854775807 ∧ Conf w A sh ∧ ShsOk sh := by
  rcases open_slice Try.underlying23 h with ⟨rfl, _⟩ | ⟨a, len, cap, m, n, D, Pl, rfl, _, hl, hm, hmm, _, hi⟩
  · exact ⟨none, [], 0, rfl, Nat.le_refl _, by omega, (fun i s hi => by cases hi), (fun s hs => by cases hs)⟩
  · have hml : len ≤ m := by rw [hmm]; split <;> omega
    have key : ∀ k, k ≤ len → ∃ sh : List Sh, sh.length = k ∧ (∀ i s, sh[i]? = some s → ShAt w (a.add (i * 5)) s) ∧ ShsOk sh := by
      intro k
      induction k with
      | zero => intro _; exact ⟨[], rfl, (fun i s hi => by cases hi), (fun s hs => by cases hs)⟩
      | succ k ih =>
        intro hk
        obtain ⟨sh, h1, h2, h3⟩ := ih (by omega)
        obtain ⟨cs', hc, ht⟩ := hi k (by omega)
        rw [cells47] at hc
        obtain ⟨s, rfl, hs⟩ := open_share ht
        obtain ⟨_, _, hat⟩ := World.cells?_some hc
        have at_ : ∀ j u, j < 5 → s.cs[j]? = some u → w.cell? ((a.add (k * 5)).add j) = some u := fun j u hj hu => by rw [hat j hj, hu]
        have c0 := at_ 0 _ (by omega) rfl
        have c1 := at_ 1 _ (by omega) rfl
        have c2 := at_ 2 _ (by omega) rfl
        have c3 := at_ 3 _ (by omega) rfl
        have c4 := at_ 4 _ (by omega) rfl
        rw [add_pos _ _ (by omega)] at c1 c2 c3 c4
        refine ⟨sh ++ [s], by simp [h1], fun i t hit => ?_, fun t ht => ?_⟩
        · by_cases hik : i < k
          · rw [List.getElem?_append_left (by omega)] at hit; exact h2 i t hit
          · rw [List.getElem?_append_right (by omega)] at hit
            have : i = k := by
              have := (List.getElem?_eq_some_iff.1 hit).1
              simp at this; omega
            subst this
            rw [h1, Nat.sub_self] at hit
            injection hit with hit
            subst hit
            exact ⟨c0, c1, c2, c3, c4⟩
        · rcases List.mem_append.1 ht with ht | ht
          · exact h3 t ht
          · rw [List.mem_singleton.1 ht]; exact hs
    obtain ⟨sh, h1, h2, h3⟩ := key len (Nat.le_refl _)
    exact ⟨some a, sh, cap, by rw [h1], by omega, by simp only [maxLen] at hm; omega, fun i s hi => ⟨a, rfl, h2 i s hi⟩, h3⟩
theorem open_byt {fuel : Nat} {cs : List Value} {x : DataW H × List MemPlace} (h : DataW.trod enc Try.prog w base spare held fuel 24 cs = some x) :
    ∃ (A : Option Addr) (bs : List Int) (d : Nat), cs = [.slice A bs.length d] ∧ bs.length ≤ d ∧ d ≤ 9223372036854775807 ∧ Byt w A bs ∧ AllB bs := by
  rcases open_ints Try.underlying24 Try.underlying5 cells5' h with ⟨rfl, _⟩ | ⟨a, len, cap, zs, rfl, _, hl, hm, hz, _, hcell, hwf⟩
  · exact ⟨none, [], 0, rfl, Nat.le_refl _, by omega, (fun i s hi => by cases hi), (fun s hs => by cases hs)⟩
  · have hzl : len ≤ zs.length := by rw [hz]; split <;> omega
    have e : (zs.take len).length = len := List.length_take_of_le hzl
    refine ⟨some a, zs.take len, cap, by rw [e], by rw [e]; exact hl, by simp only [maxLen] at hm; omega, fun i s hi => ⟨a, rfl, ?_⟩, fun s hs => ?_⟩
    · rw [List.getElem?_take] at hi
      split at hi
      · have hlt : i < zs.length := (List.getElem?_eq_some_iff.1 hi).1
        rw [hcell i hlt, List.getD, hi]; rfl
      · cases hi
    · have := bounds_u8 (hwf s (List.mem_of_mem_take hs)); omega
end
end Go.Proofs.Ytlmbkfdpgmmacaa
