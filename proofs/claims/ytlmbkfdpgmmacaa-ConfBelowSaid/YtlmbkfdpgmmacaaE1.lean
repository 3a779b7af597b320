/- The contracts of conf and of the reference, in one form for every input. -/
import Derived.Test.YtlmbkfdpgmmacaaD2
import Derived.Test.YtlmbkfdpgmmacaaD3
import Derived.Test.YtlmbkfdpgmmacaaD5
import Derived.Test.YtlmbkfdpgmmacaaC6
namespace Go.Proofs.Ytlmbkfdpgmmacaa
open Go.ChangeShapes Go.WideShapes Go.ChangeAt Go.RowKit
set_option linter.unusedVariables false
def tkL (bs : List Int) : List Sh := (takeV bs).getD []
def tkE (bs : List Int) : Int := if (takeV bs).isSome then 0 else 1
theorem took {bs : List Int} {B : Nat} {w' : World} {e : Ending} (h : TookE (takeV bs) B w' e) : ∃ A d, e = .returned (.tuple #[.slice A (tkL bs).length d, .int .i64 (tkE bs)]) ∧ Conf w' A (tkL bs) := by
  unfold tkL tkE
  cases hv : takeV bs with
  | none => rw [hv] at h; exact ⟨none, 0, h, fun i s hi => by cases hi⟩
  | some cs =>
    rw [hv] at h
    obtain ⟨sv, rfl, hown⟩ := h
    obtain ⟨A, d, rfl, _, _, hc⟩ := conf_own hown
    exact ⟨A, d, rfl, hc⟩
theorem rowsV_len2 : ∀ (l : Nat) (r : List Int) (acc : List Sh) (v : List Sh), rowsV l r acc = some v → mayConfV v = true
  | 0, r, acc, v, h => by
    simp only [rowsV] at h
    split at h
    · rename_i hh; injection h with h; rw [← h]; exact hh.2
    · cases h
  | l + 1, a :: b :: c :: d :: r, acc, v, h => by
    simp only [rowsV] at h
    split at h
    · exact rowsV_len2 l r _ v h
    · cases h
  | _ + 1, [], _, _, h => by cases h
  | _ + 1, [_], _, _, h => by cases h
  | _ + 1, [_, _], _, _, h => by cases h
  | _ + 1, [_, _, _], _, _, h => by cases h
theorem takeV_may {bs : List Int} {v : List Sh} (h : takeV bs = some v) : mayConfV v = true := by
  unfold takeV at h
  split at h
  · split at h
    · exact rowsV_len2 _ _ _ _ h
    · cases h
  · cases h
theorem tkL_len (bs : List Int) : (tkL bs).length ≤ 8 := by
  unfold tkL
  cases hv : takeV bs with
  | none => simp
  | some cs => exact (may_len (takeV_may hv)).2
theorem take_all2 (A : Option Addr) (bs : List Int) (c : Nat) (w : World) (hl : bs.length ≤ 1000000) (hc : bs.length ≤ c) (hc2 : c ≤ 9223372036854775807) (hB : AllB bs) (hy : Byt w A bs) :
    Calls Try.prog 9 #[.slice A bs.length c] w fun e w' => ∃ A d, e = .returned (.tuple #[.slice A (tkL bs).length d, .int .i64 (tkE bs)]) ∧ Conf w' A (tkL bs) ∧ Below w.heap.size w w' := by
  refine (take_conf A bs c w hl hc hc2 hB hy).mono ?_
  rintro e w' ⟨h, hb⟩
  obtain ⟨A, d, h1, h2⟩ := took h
  exact ⟨A, d, h1, h2, hb⟩
theorem refTake_all2 (A : Option Addr) (bs : List Int) (c : Nat) (w : World) (hl : bs.length ≤ 1000000) (hc : bs.length ≤ c) (hc2 : c ≤ 9223372036854775807) (hB : AllB bs) (hy : Byt w A bs) :
    Calls Try.prog 10 #[.slice A bs.length c] w fun e w' => ∃ A d, e = .returned (.tuple #[.slice A (tkL bs).length d, .int .i64 (tkE bs)]) ∧ Conf w' A (tkL bs) ∧ Below w.heap.size w w' := by
  refine (refTake_conf A bs c w hl hc hc2 hB hy).mono ?_
  rintro e w' ⟨h, hb⟩
  obtain ⟨A, d, h1, h2⟩ := took h
  exact ⟨A, d, h1, h2, hb⟩
theorem put_all2 (A : Option Addr) (cs : List Sh) (d : Nat) (w : World) (hx : cs.length ≤ 1000000) (hd : cs.length ≤ d) (hd2 : d ≤ 9223372036854775807) (ho : ShsOk cs) (ha : Conf w A cs) :
    Calls Try.prog 15 #[.slice A cs.length d] w fun e w' => ∃ A d, e = .returned (.slice A (putL cs).length d) ∧ Byt w' A (putL cs) ∧ (putL cs).length ≤ d ∧ d ≤ 9223372036854775807 ∧ Below w.heap.size w w' := by
  unfold putL
  cases hm : mayConfV cs
  · refine (put_no A cs d w hx hd hd2 ho ha hm).mono ?_
    rintro e w' ⟨rfl, hb⟩
    exact ⟨none, 0, rfl, fun i x hi => by simp at hi, by simp, by simp, hb⟩
  · refine (put_yes A cs d w hd hd2 ho ha hm).mono ?_
    rintro e w' ⟨v, rfl, hown, hb⟩
    obtain ⟨A, d, rfl, h1, h2, h3⟩ := byt_own hown (putTo_length _ _ (Nat.le_refl _))
    exact ⟨A, d, rfl, h3, h1, h2, hb⟩
theorem refPut_all2 (A : Option Addr) (cs : List Sh) (d : Nat) (w : World) (hx : cs.length ≤ 1000000) (ha : Conf w A cs) :
    Calls Try.prog 16 #[.slice A cs.length d] w fun e w' => ∃ A d, e = .returned (.slice A (putL cs).length d) ∧ Byt w' A (putL cs) ∧ Below w.heap.size w w' := by
  unfold putL
  cases hm : mayConfV cs
  · refine (refPut_confno A cs d w hx ha hm).mono ?_
    rintro e w' ⟨rfl, hb⟩
    exact ⟨none, 0, rfl, fun i x hi => by simp at hi, hb⟩
  · refine (refPut_confyes A cs d w ha hm).mono ?_
    rintro e w' ⟨v, rfl, hown, hb⟩
    obtain ⟨A, d, rfl, h1, h2, h3⟩ := byt_own hown (putTo_length _ _ (Nat.le_refl _))
    exact ⟨A, d, rfl, h3, hb⟩
/-- Who is below. -/
def belowV (cs : List Sh) (me : Int) : List Int := if mayConfV cs = true ∧ 0 ≤ me ∧ me < cs.length then me :: (Go.Sort.insertionSort (ltB cs) (selTo cs me.toNat cs.length).toArray 0 (selTo cs me.toNat cs.length).toArray.size).toList else []
theorem belowV_R {cs : List Sh} {me : Nat} (hm : mayConfV cs = true) (h : me < cs.length) : BelowR cs me (belowV cs me) := by
  unfold belowV
  rw [if_pos ⟨hm, by omega, by omega⟩]
  exact sorted_R hm me _ rfl
theorem below_all2 (A : Option Addr) (cs : List Sh) (d : Nat) (me : Int) (w : World) (hx : cs.length ≤ 1000000) (hd : cs.length ≤ d) (hd2 : d ≤ 9223372036854775807) (ho : ShsOk cs) (ha : Conf w A cs) :
    Calls Try.prog 11 #[.slice A cs.length d, .int .i64 me] w fun e w' => ∃ A d, e = .returned (.slice A (belowV cs me).length d) ∧ Num w' A (belowV cs me) ∧ Below w.heap.size w w' := by
  by_cases h : mayConfV cs = true ∧ 0 ≤ me ∧ me < cs.length
  · obtain ⟨q, rfl⟩ : ∃ q : Nat, me = q := ⟨me.toNat, by omega⟩
    refine (below_some A cs d q w hd hd2 ho ha h.1 (by omega)).mono ?_
    rintro e w' ⟨v, l, rfl, hR, hown, hb⟩
    obtain rfl := hR.eq (belowV_R h.1 (by omega))
    obtain ⟨A, d, rfl, hn⟩ := num_own hown rfl
    exact ⟨A, d, rfl, hn, hb⟩
  · refine (below_none A cs d me w hx hd hd2 ho ha h).mono ?_
    rintro e w' ⟨rfl, hb⟩
    have e0 : belowV cs me = [] := by unfold belowV; rw [if_neg h]
    rw [e0]
    exact ⟨none, 0, rfl, fun i x hi => by simp at hi, hb⟩
theorem refBelow_all2 (A : Option Addr) (cs : List Sh) (d : Nat) (me : Int) (w : World) (hx : cs.length ≤ 1000000) (ha : Conf w A cs) :
    Calls Try.prog 12 #[.slice A cs.length d, .int .i64 me] w fun e w' => ∃ A d, e = .returned (.slice A (belowV cs me).length d) ∧ Num w' A (belowV cs me) ∧ Below w.heap.size w w' := by
  by_cases h : mayConfV cs = true ∧ 0 ≤ me ∧ me < cs.length
  · obtain ⟨q, rfl⟩ : ∃ q : Nat, me = q := ⟨me.toNat, by omega⟩
    refine (refBelow_some A cs d q w ha h.1 (by omega)).mono ?_
    rintro e w' ⟨v, l, rfl, hR, hown, hb⟩
    obtain rfl := hR.eq (belowV_R h.1 (by omega))
    obtain ⟨A, d, rfl, hn⟩ := num_own hown rfl
    exact ⟨A, d, rfl, hn, hb⟩
  · refine (refBelow_none A cs d me w hx ha h).mono ?_
    rintro e w' ⟨rfl, hb⟩
    have e0 : belowV cs me = [] := by unfold belowV; rw [if_neg h]
    rw [e0]
    exact ⟨none, 0, rfl, fun i x hi => by simp at hi, hb⟩
theorem belowV_len (cs : List Sh) (me : Int) : (belowV cs me).length ≤ 8 := by
  unfold belowV
  split
  · rename_i h
    obtain ⟨t, ht, hp, _⟩ := sorted_R h.1 me.toNat (selTo cs me.toNat cs.length).toArray rfl
    have h1 := selTo_len cs me.toNat cs.length
    rw [if_pos (by omega)] at h1
    have h2 := (may_len h.1).2
    injection ht with _ ht
    rw [List.length_cons, ht, hp.length_eq]
    omega
  · simp
end Go.Proofs.Ytlmbkfdpgmmacaa
