/- What a Crash makes of a device; texts that lie behind a slice. -/
import Derived.Test.YtocmjbfbjiinhaaV14
namespace Go.Proofs.Ytocmjbfbjiinhaa
open Go.ChangeShapes Go.WideShapes Go.ChangeAt Go.RowKit
set_option linter.unusedVariables false
/-- A slice of texts. -/
def Txts (w : World) (A : Option Addr) (ks : List (List Int)) : Prop := ∀ i bs, ks[i]? = some bs → ∃ a A' c, A = some a ∧ w.cell? (a.add i) = some (.slice A' bs.length c) ∧ Byt w A' bs ∧ AllB bs ∧ bs.length ≤ c ∧ c ≤ 9223372036854775807
theorem Txts.keep {w w' : World} {A : Option Addr} {ks : List (List Int)} (h : Txts w A ks) (hk : ∀ (q : Addr) (v : Value), w.cell? q = some v → w'.cell? q = some v) : Txts w' A ks := fun i bs hi => by
  obtain ⟨a, A', c, e, h1, h2, h3⟩ := h i bs hi
  exact ⟨a, A', c, e, hk _ _ h1, fun j x hx => (by obtain ⟨a', e', h4⟩ := h2 j x hx; exact ⟨a', e', hk _ _ h4⟩), h3⟩
/-- .. whatever is done to blocks of F. -/
def TxtsF (w : World) (F : Nat → Prop) (A : Option Addr) (ks : List (List Int)) : Prop := ∀ i bs, ks[i]? = some bs → ∃ a A' c, A = some a ∧ (∀ W, Touch F w W → W.cell? (a.add i) = some (.slice A' bs.length c) ∧ Byt W A' bs) ∧ AllB bs ∧ bs.length ≤ c ∧ c ≤ 9223372036854775807
theorem block_of_add' (a : Addr) (i : Nat) : (a.add i).block = a.block := by unfold Addr.add; split <;> rfl
theorem Txts.away {w : World} {A : Option Addr} {ks : List (List Int)} (h : Txts w A ks) {F : Nat → Prop} {B : Nat} (hF : ∀ k, F k → B ≤ k) (hlt : ∀ i bs, ks[i]? = some bs → ∀ a A' c, A = some a → w.cell? (a.add i) = some (.slice A' bs.length c) → (a.add i).block < B ∧ ∀ a', A' = some a' → bs ≠ [] → a'.block < B) : TxtsF w F A ks := fun i bs hi => by
  obtain ⟨a, A', c, e, h1, h2, h3⟩ := h i bs hi
  obtain ⟨g1, g2⟩ := hlt i bs hi a A' c e h1
  refine ⟨a, A', c, e, fun W hW => ⟨?_, fun j x hx => ?_⟩, h3⟩
  · rw [World.cell?_of_block (hW.block _ (World.block_lt_of_cell? w _ h1) (fun hf => by have := hF _ hf; omega))]; exact h1
  · obtain ⟨a', e', h4⟩ := h2 j x hx
    refine ⟨a', e', ?_⟩
    have := g2 a' e' (fun e => by rw [e] at hx; cases hx)
    rw [World.cell?_of_block (hW.block _ (World.block_lt_of_cell? w _ h4) (fun hf => by have h5 := hF _ hf; rw [block_of_add'] at h5; omega))]; exact h4
def DM.crash1 (m : DM) (r : Nat) (bs : List Int) : DM :=
  { m.settle r (bitAt bs) with now := m.now.set r ((m.settle r (bitAt bs)).sure.getD r []) }
def crashN (m : DM) (ks : List (List Int)) : Nat → DM
  | 0 => m
  | k + 1 => (crashN m ks k).crash1 k (ks.getD k [])
/-- A Crash. -/
def DM.crash (m : DM) (ks : List (List Int)) : DM := (crashN m ks m.now.length).stop (-1)
theorem settle_now (m : DM) (r : Nat) (f : Nat → Bool) : (m.settle r f).now = m.now := rfl
theorem crash1_len (m : DM) (r : Nat) (bs : List Int) : (m.crash1 r bs).now.length = m.now.length ∧ (m.crash1 r bs).done = m.done := by
  unfold DM.crash1; exact ⟨by simp, rfl⟩
theorem crashN_len (m : DM) (ks : List (List Int)) : ∀ k, (crashN m ks k).now.length = m.now.length ∧ (crashN m ks k).done = m.done
  | 0 => ⟨rfl, rfl⟩
  | k + 1 => by
    have := crashN_len m ks k
    have h1 := crash1_len (crashN m ks k) k (ks.getD k [])
    exact ⟨h1.1.trans this.1, h1.2.trans this.2⟩
theorem DM.Ok.crash1 {m : DM} (h : m.Ok) {r : Nat} (hr : r < m.now.length) (bs : List Int) : (m.crash1 r bs).Ok := by
  have hs := h.settle r (bitAt bs)
  have hsl : (m.settle r (bitAt bs)).sure.length = m.now.length := hs.sureLen
  obtain ⟨srow, hsr⟩ : ∃ x, (m.settle r (bitAt bs)).sure[r]? = some x := ⟨_, List.getElem?_eq_getElem (by omega)⟩
  have hg : (m.settle r (bitAt bs)).sure.getD r [] = srow := by rw [List.getD, hsr]; rfl
  obtain ⟨⟨nrow, hn, hl⟩, hb⟩ := hs.sures r srow hsr
  have hn' : m.now[r]? = some nrow := hn
  have lens : ∀ (k : Nat) (row : List (List Int)), m.now[k]? = some row → ∃ row', (m.now.set r srow)[k]? = some row' ∧ row'.length = row.length := fun k row hk => by
    rw [List.getElem?_set]
    by_cases e : r = k
    · subst e
      rw [if_pos rfl, if_pos hr]
      rw [hn'] at hk; injection hk with hk; subst hk
      exact ⟨srow, rfl, hl⟩
    · rw [if_neg e]; exact ⟨row, hk, rfl⟩
  unfold DM.crash1
  rw [hg]
  exact
  { pos := by show 0 < (m.now.set r srow).length; rw [List.length_set]; exact h.pos
    few := by show (m.now.set r srow).length ≤ 8; rw [List.length_set]; exact h.few
    sureLen := by show _ = (m.now.set r srow).length; rw [List.length_set]; exact hsl
    unsLen := by show _ = (m.now.set r srow).length; rw [List.length_set]; exact hs.unsLen
    rows := fun k row hk => by
      have hk' : (m.now.set r srow)[k]? = some row := hk
      rw [List.getElem?_set] at hk'
      by_cases e : r = k
      · subst e
        rw [if_pos rfl, if_pos hr] at hk'
        injection hk' with hk'; subst hk'; exact ⟨by rw [hl]; exact (h.rows r nrow hn').1, hb⟩
      · rw [if_neg e] at hk'
        exact h.rows k row hk'
    sures := fun k row hk => by
      obtain ⟨⟨row', h1, h2⟩, h3⟩ := hs.sures k row hk
      obtain ⟨row2, h4, h5⟩ := lens k row' h1
      exact ⟨⟨row2, h4, by omega⟩, h3⟩
    dones := fun x hx => by
      obtain ⟨⟨row', h1, h2⟩, h3⟩ := h.dones x hx
      obtain ⟨row2, h4, h5⟩ := lens x.r row' h1
      exact ⟨⟨row2, h4, by omega⟩, h3⟩
    unss := hs.unss
    left := h.left }
theorem crashN_ok {m : DM} (h : m.Ok) (ks : List (List Int)) : ∀ k, k ≤ m.now.length → (crashN m ks k).Ok
  | 0, _ => h
  | k + 1, hk => (crashN_ok h ks k (by omega)).crash1 (by rw [(crashN_len m ks k).1]; omega) _
theorem crashOne_any (w : World) (p : Nat) (A : Option Addr) (bs : List Int) (c n : Nat) (hc : w.cell? ⟨p, 0, none⟩ = some (.slice A bs.length c)) (hB : AllB bs) (hy : Byt w A bs) (hl : bs.length ≤ 9223372036854775807) (hn : n ≤ 1000000) :
    Calls Try.prog 36 #[.int .i64 n, .pointer (some ⟨p, 0, none⟩)] w fun e w' => e = .returned (.bool (bitAt bs n)) ∧ w = w' := by
  have hS := Lib.hid (isSet_any A bs c n w hB hy hl hn)
  clear hB hy
  generalize bs.length = m at *
  go_enter Try.func36, Try.ntmps36
  go_wp2_with fail
  refine hS.out.mono ?_
  rintro e w' ⟨rfl, rfl⟩
  go_wp2
  go_ret
  exact ⟨rfl, rfl⟩
/-- Of the device all but one region's blocks is as it was; that region reads as another row. -/
theorem DevRaw.setRowNow {w w' : World} {O : Nat → DRole} {hp : Nat} {L : DLay} {m : DM} (h : DevRaw w O hp L m) {r : Nat} {row row' : List (List Int)} (hr : m.now[r]? = some row) {g cap : Nat} {u : Value} (hv : L.sNow = .slice (some ⟨g, 0, none⟩) m.now.length cap)
    (hc : w.cell? ⟨g, r, none⟩ = some u) (hu : RowAt w' (fun k => O k = .now r) 73 64 u row'.length (encB row')) (hk : ∀ k, k < w.heap.size → O k ≠ .now r → w'.heap[k]? = w.heap[k]?) : DevRaw w' O hp L { m with now := m.now.set r row' } where
  hd := by rw [hk hp (room_lt h.hd) (by rw [h.ohd]; simp)]; exact h.hd
  ohd := h.ohd
  now := h.now.setRow hr hv hc hu (fun k hk' ho => hk k hk' (by rw [ho]; simp)) (fun r' k hk' hne ho => hk k hk' (by rw [ho]; simp; exact hne))
  sure := h.sure.keep fun k hk' ho => hk k hk' (by rcases ho with ho | ⟨r, ho⟩ <;> rw [ho] <;> simp)
  done := h.done.keep fun k hk' ho => hk k hk' (by rw [ho]; simp)
  uns := h.uns.keep fun k hk' ho => hk k hk' (by rw [ho]; simp)
end Go.Proofs.Ytocmjbfbjiinhaa
