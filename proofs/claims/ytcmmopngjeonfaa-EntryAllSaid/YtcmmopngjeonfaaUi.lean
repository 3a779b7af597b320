/- Plain facts of IDs and their bytes; contract: the law's begun. -/
import Derived.Test.YtcmmopngjeonfaaUh
import Derived.Deep.DeepCutAuto
namespace Go.Proofs.Ytcmmopngjeonfaa
open Go.ChangeShapes Go.WideShapes Go.ChangeAt Go.RowKit
set_option linter.unusedVariables false
theorem putL_yes {l a g : Int} (h : MayI l a g) : putL l a g = idL l a g := by unfold putL; rw [if_pos h]
theorem putL_no {l a g : Int} (h : ¬ MayI l a g) : putL l a g = [] := by unfold putL; rw [if_neg h]
theorem putL_ok (l a g : Int) : AllB (putL l a g) := putL_allB (fun _ => trivial)
theorem putL_len (l a g : Int) : (putL l a g).length = if MayI l a g then 7 else 0 := by
  by_cases h : MayI l a g
  · rw [putL_yes h, if_pos h]; unfold idL numB; simp [be_length]
  · rw [putL_no h, if_neg h]; rfl
theorem itake_put {l a g : Int} (h : MayI l a g) (hg : u32 g) : ITaken (putL l a g) ∧ takeV (putL l a g) = idV l a g := by
  have hlen : (putL l a g).length = 7 := by rw [putL_len, if_pos h]
  have e0 : labX (putL l a g) = l := by
    rw [putL_yes h]
    show labI (((l % 256).toNat : Nat) : Int) = l
    unfold MayI Within at h
    unfold labI
    split <;> omega
  have e1 : (plcX (putL l a g) : Int) = a := by
    rw [putL_yes h]
    show (((a / 256).toNat * 256 + a.toNat : Nat) : Int) = a
    unfold MayI Within at h
    omega
  have e2 : (genX (putL l a g) : Int) = g := by
    rw [putL_yes h]
    obtain ⟨n, rfl⟩ : ∃ n : Nat, g = (n : Int) := ⟨g.toNat, by have := hg.1; omega⟩
    show (((((n / 16777216 % 256 : Nat) : Int).toNat) * 16777216 + (((n / 65536 % 256 : Nat) : Int).toNat) * 65536 + (((n / 256 % 256 : Nat) : Int).toNat) * 256 + (((n / 1 % 256 : Nat) : Int).toNat) : Nat) : Int) = n
    simp only [Int.toNat_natCast]
    have := hg.2
    omega
  have hT : ITaken (putL l a g) := ⟨hlen, by rw [e0, e1, e2]; exact h⟩
  refine ⟨hT, ?_⟩
  unfold takeV
  rw [if_pos hT, e0, e1, e2]
theorem itaken_nil : ¬ ITaken [] := fun h => by have := h.1; simp at this
theorem takeV_no {xs : List Int} (h : ¬ ITaken xs) : takeV xs = idV 0 0 0 := by unfold takeV; rw [if_neg h]
theorem iput_taken {xs : List Int} (hB : AllB xs) (h : ITaken xs) : putL (labX xs) (plcX xs) (genX xs) = xs := by
  obtain ⟨b0, b1, b2, b3, b4, b5, b6, rfl, l0, l1, l2, l3, l4, l5, l6⟩ := seven h.1 hB
  have hb := back_iff b0 b1 b2 b3 b4 b5 b6 l0 l1 l2 l3 l4 l5 l6 _ rfl _ rfl
  have h2 := h.2
  have e := hb.2 h2
  have h3 := hb.1.2 h2
  rw [e] at h3
  exact h3
/-- Put, its bytes named by where they lie. -/
theorem iput2_any (l a g : Int) (w : World) (hl : i64 l) (ha : i64 a) (hg : u32 g) :
    Calls Try.prog 16 #[idV l a g] w fun e w' => ∃ A d, e = .returned (.slice A (putL l a g).length d) ∧ (putL l a g).length ≤ d ∧ d ≤ 9223372036854775807 ∧ Byt w' A (putL l a g) ∧ Below w.heap.size w w' :=
  (iput_any l a g w hl ha hg).mono fun e w' ⟨v, he, ho, hb⟩ => by
    obtain ⟨A, d, rfl, h1, h2, h3⟩ := byt_own ho rfl
    exact ⟨A, d, he, h1, h2, h3, hb⟩
theorem irput2_any (l a g : Int) (w : World) (hl : i64 l) (ha : i64 a) (hg : u32 g) :
    Calls Try.prog 18 #[idV l a g] w fun e w' => ∃ A d, e = .returned (.slice A (putL l a g).length d) ∧ (putL l a g).length ≤ d ∧ d ≤ 9223372036854775807 ∧ Byt w' A (putL l a g) ∧ Below w.heap.size w w' :=
  (irput_any l a g w hl ha hg).mono fun e w' ⟨v, he, ho, hb⟩ => by
    obtain ⟨A, d, rfl, h1, h2, h3⟩ := byt_own ho rfl
    exact ⟨A, d, he, h1, h2, h3, hb⟩
/-- Take of what was put. -/
theorem itaken_any (l a g : Int) (A : Option Addr) (d : Nat) (w : World) (hm : MayI l a g) (hg : u32 g) (hd : (putL l a g).length ≤ d) (hd2 : d ≤ 9223372036854775807) (hy : Byt w A (putL l a g)) :
    Calls Try.prog 21 #[.slice A (putL l a g).length d] w fun e w' => e = .returned (.tuple #[idV l a g, .bool true]) ∧ Below w.heap.size w w' := by
  have h := itake_any A (putL l a g) d w hd hd2 (putL_ok l a g) hy
  rw [(itake_put hm hg).2, decide_eq_true (itake_put hm hg).1] at h
  exact h
end Go.Proofs.Ytcmmopngjeonfaa
