/- A device's region: what each block may be behind a crash; what a log and homes are. Of no function. -/
import Derived.Test.YtamnpblijdgdaaaNr
namespace Go.Proofs.Ytamnpblijdgdaaa
open Go.ChangeShapes Go.WideShapes Go.ChangeAt Go.RowKit
set_option linter.unusedVariables false
set_option maxRecDepth 100000
/-- What the block may be behind a crash. -/
def Poss (m : DM) (r i : Nat) (b : List Int) : Prop := (sureRow m r)[i]? = some b ∨ ∃ x ∈ since m r, x.r = r ∧ x.i = i ∧ x.b = b
structure Fit (m : DM) (r N : Nat) : Prop where
  ok : m.Ok
  told : Told m
  lt : r < m.now.length
  len : N ≤ (nowRow m r).length
theorem rowW_mem : ∀ (l : List DWr) (r : Nat) (kept : Nat → Bool) (nth : Nat) (s : List (List Int)) (i : Nat) (b : List Int), (rowW l r kept nth s)[i]? = some b → s[i]? = some b ∨ ∃ x ∈ l, x.r = r ∧ x.i = i ∧ x.b = b
  | [], _, _, _, s, i, b, h => Or.inl h
  | x :: l, r, kept, nth, s, i, b, h => by
    unfold rowW at h
    have up : ∀ {s' : List (List Int)}, (s'[i]? = some b ∨ ∃ y ∈ l, y.r = r ∧ y.i = i ∧ y.b = b) → s'[i]? = some b ∨ ∃ y ∈ x :: l, y.r = r ∧ y.i = i ∧ y.b = b := fun h => h.imp id fun ⟨y, h1, h2⟩ => ⟨y, by simp [h1], h2⟩
    split at h
    · rename_i hr
      split at h
      · exact Or.inl h
      · rcases rowW_mem l r kept _ _ i b h with h1 | h1
        · split at h1
          · by_cases e : x.i = i
            · have hlt := (List.getElem?_eq_some_iff.1 h1).1
              rw [List.length_set] at hlt
              rw [e, List.getElem?_set_self hlt] at h1
              injection h1 with h1
              exact Or.inr ⟨x, by simp, hr, e, h1⟩
            · rw [List.getElem?_set_ne e] at h1
              exact Or.inl h1
          · exact Or.inl h1
        · exact up (s' := s) (Or.inr h1)
    · exact up (rowW_mem l r kept _ _ i b h)
theorem now_poss {m : DM} {r N : Nat} (h : Fit m r N) {i : Nat} {b : List Int} (hb : (nowRow m r)[i]? = some b) : Poss m r i b := by
  rw [← h.told.full r h.lt] at hb
  exact rowW_mem _ _ _ _ _ _ _ hb
theorem Fit.row {m : DM} {r N : Nat} (h : Fit m r N) : m.now[r]? = some (nowRow m r) := by
  unfold nowRow
  rw [List.getD, List.getElem?_eq_getElem h.lt]; rfl
theorem Fit.small {m : DM} {r N : Nat} (h : Fit m r N) : N ≤ 1000 := Nat.le_trans h.len (h.ok.rows r _ h.row).1
theorem Fit.get {m : DM} {r N : Nat} (h : Fit m r N) {i : Nat} (hi : i < N) : ∃ b, (nowRow m r)[i]? = some b := ⟨_, List.getElem?_eq_getElem (Nat.lt_of_lt_of_le hi h.len)⟩
theorem Fit.blk {m : DM} {r N : Nat} (h : Fit m r N) {i : Nat} {b : List Int} (hb : (nowRow m r)[i]? = some b) : BlkOk b := (h.ok.rows r _ h.row).2 b (List.mem_of_getElem? hb)
theorem Fit.hR {m : DM} {r N : Nat} (h : Fit m r N) : hasR m (r : Int) = true := by
  unfold hasR
  have := h.lt
  simp; exact this
theorem Fit.hB {m : DM} {r N : Nat} (h : Fit m r N) (i : Nat) : hasB m (r : Int) (i : Int) = decide (i < (nowRow m r).length) := by
  unfold hasB
  rw [h.hR, Int.toNat_natCast, rowLen_of h.row]
  simp
theorem Fit.rV {m : DM} {r N : Nat} (h : Fit m r N) (i : Nat) : rowV m (r : Int) (i : Int) = (nowRow m r)[i]? := by
  unfold rowV
  rw [h.hB, Int.toNat_natCast, Int.toNat_natCast]
  show (if _ then (nowRow m r)[i]? else none) = _
  by_cases hi : i < (nowRow m r).length
  · rw [if_pos (by simpa using hi)]
  · rw [if_neg (by simpa using hi), List.getElem?_eq_none (by omega)]
theorem Fit.rV_blk {m : DM} {r N : Nat} (h : Fit m r N) (i : Int) (b : List Int) (hb : rowV m (r : Int) i = some b) : BlkOk b := by
  unfold rowV at hb
  split at hb
  · rename_i hh
    obtain ⟨rn, j, row, e1, rfl, hrow, hj⟩ := hasB_row hh
    rw [e1, Int.toNat_natCast, Int.toNat_natCast, List.getD, hrow] at hb
    exact (h.ok.rows rn row hrow).2 b (List.mem_of_getElem? hb)
  · cases hb
theorem stop_write {m : DM} (hs : stopped m = true) (r i : Int) (b : List Int) : m.doWrite r i b = m := by unfold DM.doWrite; rw [if_neg (by rw [hs]; simp)]
theorem stop_barrier {m : DM} (hs : stopped m = true) (r : Int) : m.doBarrier r = m := by unfold DM.doBarrier; rw [if_neg (by rw [hs]; simp)]
/-- A write that is done. -/
theorem Fit.write {m : DM} {r N : Nat} (h : Fit m r N) (hs : stopped m = false) {i : Nat} (hi : i < N) {b : List Int} (hb : BlkOk b) : Fit (m.doWrite r i b) r N ∧ (∀ j c, Poss (m.doWrite r i b) r j c → Poss m r j c ∨ (j = i ∧ c = b)) ∧ (∀ j, (nowRow (m.doWrite r i b) r)[j]? = if j = i then some b else (nowRow m r)[j]?) ∧ (m.doWrite r i b).stops = m.stops := by
  have hil : i < (nowRow m r).length := Nat.lt_of_lt_of_le hi h.len
  have e : m.doWrite r i b = m.write r i b := by
    unfold DM.doWrite
    rw [if_pos ⟨by rw [h.hB]; simpa using hil, hb.1, hs⟩, Int.toNat_natCast, Int.toNat_natCast]
  have hn : nowRow (m.write r i b) r = (nowRow m r).set i b := setAt_row _ _ _ _
  have hl : (m.write r i b).now.length = m.now.length := by show (setAt _ _ _ _).length = _; unfold setAt; simp
  have h1000 := h.small
  rw [e]
  refine ⟨⟨h.ok.write h.row hil hb, h.told.write h.ok r i b (by omega), by rw [hl]; exact h.lt, by rw [hn, List.length_set]; exact h.len⟩, fun j c hp => ?_, fun j => ?_, rfl⟩
  · rcases hp with hp | ⟨x, hx, h1, h2, h3⟩
    · exact Or.inl (Or.inl hp)
    · rw [since_write h.ok h.lt] at hx
      rcases List.mem_append.1 hx with hx | hx
      · exact Or.inl (Or.inr ⟨x, hx, h1, h2, h3⟩)
      · rw [List.mem_singleton.1 hx] at h2 h3
        exact Or.inr ⟨h2.symm, h3.symm⟩
  · rw [hn, List.getElem?_set]
    by_cases hj : i = j
    · subst hj; rw [if_pos rfl, if_pos hil, if_pos rfl]
    · rw [if_neg hj, if_neg (fun h => hj h.symm)]
/-- A Barrier that is done. -/
theorem Fit.barrier {m : DM} {r N : Nat} (h : Fit m r N) (hs : stopped m = false) : Fit (m.doBarrier r) r N ∧ (∀ j c, Poss (m.doBarrier r) r j c → (nowRow m r)[j]? = some c) ∧ (∀ j : Nat, (nowRow (m.doBarrier r) r)[j]? = (nowRow m r)[j]?) ∧ stopped (m.doBarrier r) = false ∧ (m.doBarrier r).stops = m.stops := by
  have e : m.doBarrier r = m.barrier r := by
    unfold DM.doBarrier
    rw [if_pos ⟨h.hR, hs⟩, Int.toNat_natCast]
  obtain ⟨h1, h2, h3, h4, h5⟩ := barrier_rows h.told h.ok h.lt
  rw [e]
  refine ⟨⟨(h.ok.tell h.lt).settle r _, h.told.barrier h.ok h.lt, h.lt, by rw [h3]; exact h.len⟩, fun j c hp => ?_, fun j => by rw [h3], hs, rfl⟩
  rcases hp with hp | ⟨x, hx, _⟩
  · rw [h1] at hp; exact hp
  · rw [h4] at hx; cases hx
theorem crash1_rest {m : DM} (h : m.Ok) {r : Nat} (hr : r < m.now.length) (bs : List Int) : since (m.crash1 r bs) r = [] ∧ sureRow (m.crash1 r bs) r = nowRow (m.crash1 r bs) r := by
  refine ⟨settle_since h hr (bitAt bs), ?_⟩
  unfold nowRow DM.crash1
  simp [List.getD, hr]
  rfl
theorem crashN_rest {m : DM} (h : m.Ok) (ks : List (List Int)) : ∀ n, n ≤ m.now.length → ∀ r, r < n → since (crashN m ks n) r = [] ∧ sureRow (crashN m ks n) r = nowRow (crashN m ks n) r
  | 0, _, r, hr => by omega
  | n + 1, hn, r, hr => by
    have hok := crashN_ok h ks n (by omega)
    have hl : n < (crashN m ks n).now.length := by rw [(crashN_len m ks n).1]; omega
    show since ((crashN m ks n).crash1 n (ks.getD n [])) r = [] ∧ sureRow ((crashN m ks n).crash1 n (ks.getD n [])) r = nowRow ((crashN m ks n).crash1 n (ks.getD n [])) r
    by_cases e : r = n
    · subst e
      exact crash1_rest hok hl _
    · obtain ⟨g1, g2, g3⟩ := crash1_other (crashN m ks n) n (ks.getD n []) e
      obtain ⟨f1, f2⟩ := crashN_rest h ks n (by omega) r (by omega)
      exact ⟨g3.trans f1, g2.trans (f2.trans g1.symm)⟩
theorem crash_rest {m : DM} (h : m.Ok) (ks : List (List Int)) {r : Nat} (hr : r < m.now.length) : since (m.crash ks) r = [] ∧ sureRow (m.crash ks) r = nowRow (m.crash ks) r := crashN_rest h ks _ (Nat.le_refl _) r hr
/-- Behind a crash all is sure, and each block is one that it may be. -/
theorem Fit.crash {m : DM} {r N : Nat} (h : Fit m r N) (ks : List (List Int)) : Fit (m.crash ks) r N ∧ (∀ j b, (nowRow (m.crash ks) r)[j]? = some b → Poss m r j b) ∧ (∀ j c, Poss (m.crash ks) r j c → (nowRow (m.crash ks) r)[j]? = some c) := by
  have hl := crash_len (m := m) ks
  have hd := dims_crash h.ok ks
  refine ⟨⟨crash_ok h.ok ks, ⟨fun r' hr' x hx => ?_, fun r' hr' => ?_⟩, by rw [hl]; exact h.lt, ?_⟩, fun j b hb => ?_, fun j c hp => ?_⟩
  · rw [(crash_rest h.ok ks (by rw [← hl]; exact hr')).1] at hx; cases hx
  · rw [(crash_rest h.ok ks (by rw [← hl]; exact hr')).1, (crash_rest h.ok ks (by rw [← hl]; exact hr')).2]; rfl
  · have h1 := rowLen_dims (m.crash ks) r
    rw [hd, ← rowLen_dims] at h1
    show _ ≤ rowLen (m.crash ks).now r
    rw [h1]; exact h.len
  · rw [crash_row h.ok ks h.lt] at hb
    exact rowW_mem _ _ _ _ _ _ _ hb
  · rcases hp with hp | ⟨x, hx, _⟩
    · rw [(crash_rest h.ok ks h.lt).2] at hp; exact hp
    · rw [(crash_rest h.ok ks h.lt).1] at hx; cases hx
theorem Fit.stop {m : DM} {r N : Nat} (h : Fit m r N) (n : Nat) (hn : n ≤ 1000000) : Fit (m.stop n) r N := ⟨h.ok.stop (by constructor <;> omega) (by omega), ⟨h.told.clean, h.told.full⟩, h.lt, h.len⟩
/-! What may be mounted. -/
/-- Of that epoch; homes, and records of its log. -/
structure Mtb (m : DM) (r n g e : Nat) (S0 : List Bk) (Rs : List (List Wr)) : Prop where
  fit : Fit m r (2 + g + n)
  e1 : 1 ≤ e
  e2 : e < 65000
  len : S0.length = n
  ok : BksOk S0
  n200 : n ≤ 200
  rs : ∀ l ∈ Rs, MayL l ∧ WrsOk l
  an : (nowRow m r)[e % 2]? = some (anchorB 0 e)
  ao : ∀ b, (nowRow m r)[(e + 1) % 2]? = some b → anOk b ((e + 1) % 2) = true → takeA 0 b < e
  hm : ∀ (i : Nat) (x : Bk), S0[i]? = some x → Untouched Rs.flatten i → (nowRow m r)[2 + g + i]? = some (sealB 0 x.k i x.bs)
  lg : ∃ rest, ((nowRow m r).drop 2).take g = putsL e 0 Rs ++ rest ∧ ¬ Taken 0 e Rs.length rest
  od : ∀ i, i < g → ∀ b, (nowRow m r)[2 + i]? = some b → Old (e + 1) b
/-- Whatever a crash leaves may be mounted, as one of D. -/
def Fz (m : DM) (r n g : Nat) (D : List Bk → Prop) (E : Nat) : Prop := Fit m r (2 + g + n) ∧ ∀ m', Fit m' r (2 + g + n) → (∀ i b, (nowRow m' r)[i]? = some b → Poss m r i b) → ∃ e S0 Rs, Mtb m' r n g e S0 Rs ∧ D (applyW S0 Rs.flatten) ∧ e ≤ E
theorem Fz.mono {m : DM} {r n g : Nat} {D D' : List Bk → Prop} {E E' : Nat} (h : Fz m r n g D E) (hD : ∀ s, D s → D' s) (hE : E ≤ E') : Fz m r n g D' E' := ⟨h.1, fun m' hf hp => by
  obtain ⟨e, S0, Rs, h1, h2, h3⟩ := h.2 m' hf hp
  exact ⟨e, S0, Rs, h1, hD _ h2, by omega⟩⟩
/-- Between changes, or inside of one, of which j blocks are written. -/
structure Idle (m : DM) (r n g e : Nat) (S0 : List Bk) (Rs : List (List Wr)) (k : Nat) (l : List Wr) (j : Nat) : Prop where
  fit : Fit m r (2 + g + n)
  e1 : 1 ≤ e
  e2 : e < 65000
  len : S0.length = n
  ok : BksOk S0
  n200 : n ≤ 200
  rs : ∀ l ∈ Rs, MayL l ∧ WrsOk l
  kle : k ≤ Rs.length
  fits : (putsL e 0 Rs).length + j ≤ g
  an : ∀ b, Poss m r (e % 2) b → b = anchorB 0 e
  ao : ∀ b, Poss m r ((e + 1) % 2) b → anOk b ((e + 1) % 2) = true → takeA 0 b < e
  hm : ∀ (i : Nat) (x : Bk), S0[i]? = some x → ∀ b, Poss m r (2 + g + i) b → b = sealB 0 x.k i x.bs
  lg : ∀ (i : Nat) (c : List Int), (putsL e 0 Rs)[i]? = some c → ∀ b, Poss m r (2 + i) b → b = c ∨ Old e b
  sure : ∀ (i : Nat) (c : List Int), (putsL e 0 (Rs.take k))[i]? = some c → ∀ b, Poss m r (2 + i) b → b = c
  nw : ∀ (i : Nat) (c : List Int), (putsL e 0 Rs)[i]? = some c → (nowRow m r)[2 + i]? = some c
  part : j = 0 ∨ (MayL l ∧ WrsOk l ∧ j ≤ l.length)
  pt : ∀ i, i < j → ∀ b, Poss m r (2 + ((putsL e 0 Rs).length + i)) b → some b = (putL 0 e Rs.length l)[i]? ∨ Old e b
  ptn : ∀ i, i < j → (nowRow m r)[2 + ((putsL e 0 Rs).length + i)]? = (putL 0 e Rs.length l)[i]?
  old : ∀ i, (putsL e 0 Rs).length + j ≤ i → i < g → ∀ b, Poss m r (2 + i) b → Old e b
theorem log_at {m : DM} {r g i : Nat} {b : List Int} (h : (((nowRow m r).drop 2).take g)[i]? = some b) : i < g ∧ (nowRow m r)[2 + i]? = some b := by
  rw [List.getElem?_take] at h
  split at h
  · rename_i hi
    rw [List.getElem?_drop] at h
    exact ⟨hi, h⟩
  · cases h
theorem log_len {m : DM} {r N g : Nat} (h : Fit m r N) (hg : 2 + g ≤ N) : (((nowRow m r).drop 2).take g).length = g := by
  rw [List.length_take, List.length_drop]
  have := h.len
  omega
/-- A block that may stand in the log of that epoch is of it, or of none that is later. -/
theorem Idle.od {m : DM} {r n g e : Nat} {S0 : List Bk} {Rs : List (List Wr)} {k : Nat} {l : List Wr} {j : Nat} (h : Idle m r n g e S0 Rs k l j) {i : Nat} (hi : i < g) {b : List Int} (hb : Poss m r (2 + i) b) : Old (e + 1) b := by
  by_cases h1 : i < (putsL e 0 Rs).length
  · obtain ⟨c, hc⟩ : ∃ c, (putsL e 0 Rs)[i]? = some c := ⟨_, List.getElem?_eq_getElem h1⟩
    rcases h.lg i c hc b hb with h2 | h2
    · rw [h2]; exact (putsL_mem h.rs (List.mem_of_getElem? hc)).old h.e1
    · exact h2.mono (Nat.le_succ _)
  · by_cases h2 : i < (putsL e 0 Rs).length + j
    · have h3 := h.pt (i - (putsL e 0 Rs).length) (by omega) b (by rw [show (putsL e 0 Rs).length + (i - (putsL e 0 Rs).length) = i by omega]; exact hb)
      rcases h3 with h3 | h3
      · rcases h.part with h4 | ⟨h4, h5, _⟩
        · omega
        · exact (putL_logB h4 h5 (List.mem_of_getElem? h3.symm)).old h.e1
      · exact h3.mono (Nat.le_succ _)
    · exact (h.old i (by omega) hi b hb).mono (Nat.le_succ _)
theorem Idle.mtb {m : DM} {r n g e : Nat} {S0 : List Bk} {Rs : List (List Wr)} {k : Nat} {l : List Wr} {j : Nat} (h : Idle m r n g e S0 Rs k l j) {m' : DM} (hf : Fit m' r (2 + g + n)) (hp : ∀ i b, (nowRow m' r)[i]? = some b → Poss m r i b) : ∃ k', k ≤ k' ∧ k' ≤ Rs.length ∧ Mtb m' r n g e S0 (Rs.take k') := by
  have hlen := log_len (g := g) hf (by omega)
  obtain ⟨k', h1, h2, rest, h3, h4⟩ := log_out h.e1 (by have := h.e2; omega) l j (h.part.imp id fun h => ⟨h.1, h.2.2⟩) Rs 0 (((nowRow m' r).drop 2).take g) k h.kle h.rs (by rw [hlen]; have := h.fits; omega)
    (fun i c hc b hb => h.lg i c hc b (hp _ _ (log_at hb).2)) (fun i c hc b hb => h.sure i c hc b (hp _ _ (log_at hb).2))
    (fun i hi b hb => by rw [Nat.zero_add]; exact h.pt i hi b (hp _ _ (log_at hb).2)) (fun i hi b hb => h.old i hi (log_at hb).1 b (hp _ _ (log_at hb).2))
  rw [Nat.zero_add] at h4
  have hN : ∀ i, i < 2 + g + n → ∃ b, (nowRow m' r)[i]? = some b := fun i hi => hf.get hi
  refine ⟨k', h1, h2, ⟨hf, h.e1, h.e2, h.len, h.ok, h.n200, fun l' hl' => h.rs l' (List.mem_of_mem_take hl'), ?_, fun b hb => h.ao b (hp _ _ hb), fun i x hx _ => ?_, ⟨rest, h3, by rw [List.length_take, show min k' Rs.length = k' by omega]; exact h4⟩, fun i hi b hb => h.od hi (hp _ _ hb)⟩⟩
  · obtain ⟨b, hb⟩ := hN (e % 2) (by have := Nat.mod_lt e (show 0 < 2 by omega); omega)
    rw [hb, h.an b (hp _ _ hb)]
  · have hi := (List.getElem?_eq_some_iff.1 hx).1
    rw [h.len] at hi
    obtain ⟨b, hb⟩ := hN (2 + g + i) (by omega)
    rw [hb, h.hm i x hx b (hp _ _ hb)]
theorem Idle.mtb_now {m : DM} {r n g e : Nat} {S0 : List Bk} {Rs : List (List Wr)} {k : Nat} {l : List Wr} (h : Idle m r n g e S0 Rs k l 0) : Mtb m r n g e S0 Rs := by
  have hp : ∀ i b, (nowRow m r)[i]? = some b → Poss m r i b := fun i b hb => now_poss h.fit hb
  have hlen := log_len (g := g) h.fit (by omega)
  have hfit := h.fits
  have hX : ((nowRow m r).drop 2).take g = putsL e 0 Rs ++ (((nowRow m r).drop 2).take g).drop (putsL e 0 Rs).length := by
    apply List.ext_getElem?
    intro i
    by_cases hi : i < (putsL e 0 Rs).length
    · rw [List.getElem?_append_left hi]
      obtain ⟨c, hc⟩ : ∃ c, (putsL e 0 Rs)[i]? = some c := ⟨_, List.getElem?_eq_getElem hi⟩
      rw [hc, List.getElem?_take, if_pos (by omega), List.getElem?_drop]
      exact h.nw i c hc
    · rw [List.getElem?_append_right (by omega), List.getElem?_drop, show (putsL e 0 Rs).length + (i - (putsL e 0 Rs).length) = i by omega]
  refine ⟨h.fit, h.e1, h.e2, h.len, h.ok, h.n200, h.rs, ?_, fun b hb => h.ao b (hp _ _ hb), fun i x hx _ => ?_, ⟨_, hX, nt_old (by have := h.e2; omega) fun b hb => ?_⟩, fun i hi b hb => h.od hi (hp _ _ hb)⟩
  · obtain ⟨b, hb⟩ := h.fit.get (i := e % 2) (by have := Nat.mod_lt e (show 0 < 2 by omega); omega)
    rw [hb, h.an b (hp _ _ hb)]
  · have hi := (List.getElem?_eq_some_iff.1 hx).1
    rw [h.len] at hi
    obtain ⟨b, hb⟩ := h.fit.get (i := 2 + g + i) (by omega)
    rw [hb, h.hm i x hx b (hp _ _ hb)]
  · rw [List.getElem?_drop] at hb
    exact h.old _ (by omega) (log_at hb).1 b (hp _ _ (log_at hb).2)
theorem Idle.fz {m : DM} {r n g e : Nat} {S0 : List Bk} {Rs : List (List Wr)} {k : Nat} {l : List Wr} {j : Nat} (h : Idle m r n g e S0 Rs k l j) {D : List Bk → Prop} {E : Nat} (hD : ∀ k', k ≤ k' → k' ≤ Rs.length → D (applyW S0 (Rs.take k').flatten)) (hE : e ≤ E) : Fz m r n g D E :=
  ⟨h.fit, fun m' hf hp => by
    obtain ⟨k', h1, h2, h3⟩ := h.mtb hf hp
    exact ⟨e, S0, _, h3, hD k' h1 h2, hE⟩⟩
end Go.Proofs.Ytamnpblijdgdaaa
