/- What a device is behind a change, a barrier, a going home. Of no function. -/
import Derived.Test.YtamnpblijdgdaaaNs
namespace Go.Proofs.Ytamnpblijdgdaaa
open Go.ChangeShapes Go.WideShapes Go.ChangeAt Go.RowKit
set_option linter.unusedVariables false
set_option maxRecDepth 100000
def AllSure (m : DM) (r : Nat) : Prop := ∀ j c, Poss m r j c → (nowRow m r)[j]? = some c
def Go2 (m : DM) (Q F : DM → Prop) : Prop := (stopped m = false ∧ Q m) ∨ (stopped m = true ∧ F m)
theorem Go2.mono {m : DM} {Q Q' F F' : DM → Prop} (h : Go2 m Q F) (hQ : Q m → Q' m) (hF : F m → F' m) : Go2 m Q' F' := h.imp (fun ⟨a, b⟩ => ⟨a, hQ b⟩) (fun ⟨a, b⟩ => ⟨a, hF b⟩)
section
variable {m : DM} {r n g e : Nat} {S0 : List Bk} {Rs : List (List Wr)} {k : Nat} {l : List Wr} {j : Nat}
theorem Idle.bar (h : Idle m r n g e S0 Rs k l 0) (hs : stopped m = false) : Idle (m.doBarrier r) r n g e S0 Rs Rs.length l 0 ∧ AllSure (m.doBarrier r) r := by
  obtain ⟨h1, h2, h3, _, _⟩ := h.fit.barrier hs
  have hp : ∀ i b, Poss (m.doBarrier r) r i b → Poss m r i b := fun i b hb => now_poss h.fit (h2 i b hb)
  refine ⟨⟨h1, h.e1, h.e2, h.len, h.ok, h.n200, h.rs, Nat.le_refl _, h.fits, fun b hb => h.an b (hp _ _ hb), fun b hb => h.ao b (hp _ _ hb), fun i x hx b hb => h.hm i x hx b (hp _ _ hb), fun i c hc b hb => h.lg i c hc b (hp _ _ hb), fun i c hc b hb => ?_, fun i c hc => by rw [h3]; exact h.nw i c hc, Or.inl rfl, fun i hi => by omega, fun i hi => by omega, fun i h4 h5 b hb => h.old i h4 h5 b (hp _ _ hb)⟩, fun i c hc => by rw [h3]; exact h2 i c hc⟩
  rw [List.take_length] at hc
  have h6 := h2 _ _ hb
  rw [h.nw i c hc] at h6
  injection h6 with h6; exact h6.symm
theorem Idle.relabel (h : Idle m r n g e S0 Rs k l 0) (l' : List Wr) : Idle m r n g e S0 Rs k l' 0 :=
  { h with part := Or.inl rfl, pt := fun i hi => by omega, ptn := fun i hi => by omega }
theorem sealB_blk {k : Int} {bs : List Int} (t : Nat) (hk : 0 ≤ k ∧ k ≤ 7) (h56 : bs.length = 56) (hB : AllB bs) : BlkOk (sealB 0 k t bs) := ⟨sealB_length h56, sealB_allB (by omega) hk hB⟩
/-- One block more of a change. -/
theorem Idle.write (h : Idle m r n g e S0 Rs k l j) (hs : stopped m = false) (hl : MayL l ∧ WrsOk l) (hj : j ≤ l.length) (hfit : (putsL e 0 Rs).length + (1 + l.length) ≤ g) {c : List Int} (hc : (putL 0 e Rs.length l)[j]? = some c) :
    (j < l.length → Idle (m.doWrite r ((2 + ((putsL e 0 Rs).length + j) : Nat) : Int) c) r n g e S0 Rs k l (j + 1)) ∧ (j = l.length → Idle (m.doWrite r ((2 + ((putsL e 0 Rs).length + j) : Nat) : Int) c) r n g e S0 (Rs ++ [l]) k [] 0) := by
  have hcb : BlkOk c := putL_blk e Rs.length hl.1 hl.2 c (List.mem_of_getElem? hc)
  obtain ⟨f1, f2, f3, _⟩ := h.fit.write hs (i := 2 + ((putsL e 0 Rs).length + j)) (by omega) hcb
  have hpo : ∀ i b, i ≠ 2 + ((putsL e 0 Rs).length + j) → Poss (m.doWrite r ((2 + ((putsL e 0 Rs).length + j) : Nat) : Int) c) r i b → Poss m r i b := fun i b hi hb => (f2 i b hb).resolve_right fun h => hi h.1
  have hno : ∀ i, i ≠ 2 + ((putsL e 0 Rs).length + j) → (nowRow (m.doWrite r ((2 + ((putsL e 0 Rs).length + j) : Nat) : Int) c) r)[i]? = (nowRow m r)[i]? := fun i hi => by rw [f3, if_neg hi]
  have hat := f3 (2 + ((putsL e 0 Rs).length + j))
  rw [if_pos rfl] at hat
  have hm2 : ∀ x : Nat, x % 2 < 2 := fun x => Nat.mod_lt _ (by omega)
  have han : ∀ b, Poss (m.doWrite r ((2 + ((putsL e 0 Rs).length + j) : Nat) : Int) c) r (e % 2) b → b = anchorB 0 e := fun b hb => h.an b (hpo _ _ (by have := hm2 e; omega) hb)
  have hao : ∀ b, Poss (m.doWrite r ((2 + ((putsL e 0 Rs).length + j) : Nat) : Int) c) r ((e + 1) % 2) b → anOk b ((e + 1) % 2) = true → takeA 0 b < e := fun b hb => h.ao b (hpo _ _ (by have := hm2 (e + 1); omega) hb)
  have hhm : ∀ (i : Nat) (x : Bk), S0[i]? = some x → ∀ b, Poss (m.doWrite r ((2 + ((putsL e 0 Rs).length + j) : Nat) : Int) c) r (2 + g + i) b → b = sealB 0 x.k i x.bs := fun i x hx b hb => h.hm i x hx b (hpo _ _ (by omega) hb)
  have hkl : (putsL e 0 (Rs.take k)).length ≤ (putsL e 0 Rs).length := by
    have h5 : putsL e 0 Rs = putsL e 0 (Rs.take k) ++ putsL e (0 + (Rs.take k).length) (Rs.drop k) := by rw [← putsL_append, List.take_append_drop]
    rw [h5, List.length_append]; omega
  have hsu : ∀ (i : Nat) (c' : List Int), (putsL e 0 (Rs.take k))[i]? = some c' → ∀ b, Poss (m.doWrite r ((2 + ((putsL e 0 Rs).length + j) : Nat) : Int) c) r (2 + i) b → b = c' := fun i c' hc' b hb => h.sure i c' hc' b (hpo _ _ (by have := (List.getElem?_eq_some_iff.1 hc').1; omega) hb)
  have hpt : ∀ i, i < j + 1 → ∀ b, Poss (m.doWrite r ((2 + ((putsL e 0 Rs).length + j) : Nat) : Int) c) r (2 + ((putsL e 0 Rs).length + i)) b → some b = (putL 0 e Rs.length l)[i]? ∨ Old e b := fun i hi b hb => by
    by_cases hij : i = j
    · subst hij
      rcases f2 _ _ hb with h1 | ⟨_, h1⟩
      · exact Or.inr (h.old _ (Nat.le_refl _) (by omega) b h1)
      · exact Or.inl (by rw [hc, h1])
    · exact h.pt i (by omega) b (hpo _ _ (by omega) hb)
  have hptn : ∀ i, i < j + 1 → (nowRow (m.doWrite r ((2 + ((putsL e 0 Rs).length + j) : Nat) : Int) c) r)[2 + ((putsL e 0 Rs).length + i)]? = (putL 0 e Rs.length l)[i]? := fun i hi => by
    by_cases hij : i = j
    · subst hij; rw [hat, hc]
    · rw [hno _ (by omega)]; exact h.ptn i (by omega)
  refine ⟨fun hjl => ⟨f1, h.e1, h.e2, h.len, h.ok, h.n200, h.rs, h.kle, by omega, han, hao, hhm, fun i c' hc' b hb => h.lg i c' hc' b (hpo _ _ (by have := (List.getElem?_eq_some_iff.1 hc').1; omega) hb), hsu, fun i c' hc' => by rw [hno _ (by have := (List.getElem?_eq_some_iff.1 hc').1; omega)]; exact h.nw i c' hc', Or.inr ⟨hl.1, hl.2, hjl⟩, hpt, hptn, fun i h1 h2 b hb => h.old i (by omega) h2 b (hpo _ _ (by omega) hb)⟩, fun hjl => ?_⟩
  have hap : putsL e 0 (Rs ++ [l]) = putsL e 0 Rs ++ putL 0 e Rs.length l := by rw [putsL_append, putsL_one, Nat.zero_add]
  have hpl : (putL 0 e Rs.length l).length = 1 + l.length := putL_length _ _ _ _
  have hal : (putsL e 0 (Rs ++ [l])).length = (putsL e 0 Rs).length + (1 + l.length) := by rw [hap, List.length_append, hpl]
  refine ⟨f1, h.e1, h.e2, h.len, h.ok, h.n200, fun l' hl' => ?_, by rw [List.length_append]; have := h.kle; omega, by rw [hal]; omega, han, hao, hhm, fun i c' hc' b hb => ?_, fun i c' hc' b hb => ?_, fun i c' hc' => ?_, Or.inl rfl, fun i hi => by omega, fun i hi => by omega, fun i h1 h2 b hb => h.old i (by rw [hal] at h1; omega) h2 b (hpo _ _ (by rw [hal] at h1; omega) hb)⟩
  · rcases List.mem_append.1 hl' with h1 | h1
    · exact h.rs l' h1
    · rw [List.mem_singleton.1 h1]; exact hl
  · rw [hap] at hc'
    by_cases hi : i < (putsL e 0 Rs).length
    · rw [List.getElem?_append_left hi] at hc'
      exact h.lg i c' hc' b (hpo _ _ (by omega) hb)
    · rw [List.getElem?_append_right (by omega)] at hc'
      have hi2 := (List.getElem?_eq_some_iff.1 hc').1
      have h1 := hpt (i - (putsL e 0 Rs).length) (by omega) b (by rw [show (putsL e 0 Rs).length + (i - (putsL e 0 Rs).length) = i by omega]; exact hb)
      rw [hc'] at h1
      exact h1.imp (fun h2 => by injection h2) id
  · rw [List.take_append_of_le_length h.kle] at hc'
    exact hsu i c' hc' b hb
  · rw [hap] at hc'
    by_cases hi : i < (putsL e 0 Rs).length
    · rw [List.getElem?_append_left hi] at hc'
      rw [hno _ (by omega)]; exact h.nw i c' hc'
    · rw [List.getElem?_append_right (by omega)] at hc'
      have hi2 := (List.getElem?_eq_some_iff.1 hc').1
      have h1 := hptn (i - (putsL e 0 Rs).length) (by omega)
      rw [show (putsL e 0 Rs).length + (i - (putsL e 0 Rs).length) = i by omega, hc'] at h1
      exact h1
end
theorem logW_stop {m : DM} (hs : stopped m = true) (r : Int) : ∀ (l : List (List Int)) (o : Nat), logW r m o l = m
  | [], _ => rfl
  | b :: l, o => by show logW r (m.doWrite r _ b) (o + 1) l = m; rw [stop_write hs, logW_stop hs r l]
/-- A change's record is written, or the device stops inside of it. -/
theorem put_go {r n g e : Nat} {S0 : List Bk} {Rs : List (List Wr)} {k : Nat} {l : List Wr} {F : DM → Prop} (hl : MayL l ∧ WrsOk l) (hfit : (putsL e 0 Rs).length + (1 + l.length) ≤ g) (hF : ∀ m j, Idle m r n g e S0 Rs k l j → F m) (hF2 : ∀ m, Idle m r n g e S0 (Rs ++ [l]) k [] 0 → F m) :
    ∀ (d : Nat) (m : DM) (j : Nat), j + d = l.length → Go2 m (fun m => Idle m r n g e S0 Rs k l j) F → Go2 (logW r m ((putsL e 0 Rs).length + j) ((putL 0 e Rs.length l).drop j)) (fun m => Idle m r n g e S0 (Rs ++ [l]) k [] 0) F := by
  intro d
  have hpl : (putL 0 e Rs.length l).length = 1 + l.length := putL_length _ _ _ _
  induction d with
  | zero =>
    intro m j hj hg
    obtain ⟨c, hc⟩ : ∃ c, (putL 0 e Rs.length l)[j]? = some c := ⟨_, List.getElem?_eq_getElem (by omega)⟩
    have hd : (putL 0 e Rs.length l).drop j = [c] := by
      rw [List.drop_eq_getElem_cons (by omega), (List.getElem?_eq_some_iff.1 hc).2, List.drop_of_length_le (by omega)]
    rw [hd]
    show Go2 (m.doWrite r ((2 + ((putsL e 0 Rs).length + j) : Nat) : Int) c) _ _
    rcases hg with ⟨hs, hI⟩ | ⟨hs, hf⟩
    · have h1 := (hI.write hs hl (by omega) hfit hc).2 (by omega)
      cases hs2 : stopped (m.doWrite r ((2 + ((putsL e 0 Rs).length + j) : Nat) : Int) c)
      · exact Or.inl ⟨hs2, h1⟩
      · exact Or.inr ⟨hs2, hF2 _ h1⟩
    · rw [stop_write hs]; exact Or.inr ⟨hs, hf⟩
  | succ d ih =>
    intro m j hj hg
    obtain ⟨c, hc⟩ : ∃ c, (putL 0 e Rs.length l)[j]? = some c := ⟨_, List.getElem?_eq_getElem (by omega)⟩
    rw [List.drop_eq_getElem_cons (by omega), (List.getElem?_eq_some_iff.1 hc).2]
    show Go2 (logW r (m.doWrite r ((2 + ((putsL e 0 Rs).length + j) : Nat) : Int) c) ((putsL e 0 Rs).length + j + 1) _) _ _
    refine ih _ (j + 1) (by omega) ?_
    rcases hg with ⟨hs, hI⟩ | ⟨hs, hf⟩
    · have h1 := (hI.write hs hl (by omega) hfit hc).1 (by omega)
      cases hs2 : stopped (m.doWrite r ((2 + ((putsL e 0 Rs).length + j) : Nat) : Int) c)
      · exact Or.inl ⟨hs2, h1⟩
      · exact Or.inr ⟨hs2, hF _ _ h1⟩
    · rw [stop_write hs]; exact Or.inr ⟨hs, hf⟩
/-- What a vol knows of its region. -/
structure Tied (v : VM) (r n g e : Nat) (S0 : List Bk) (Rs : List (List Wr)) : Prop where
  vr : v.r = (r : Int)
  vn : v.n = n
  vg : v.g = g
  ve : v.ep = e
  vok : v.Ok
  val : v.B.map val = applyW S0 Rs.flatten
  fl : ∀ (i : Nat) (x : HB), v.B[i]? = some x → x.lg = false → Untouched Rs.flatten i
theorem Tied.at_ {v : VM} {r n g e : Nat} {S0 : List Bk} {Rs : List (List Wr)} (h : Tied v r n g e S0 Rs) {i : Nat} {x : HB} (hx : v.B[i]? = some x) : (applyW S0 Rs.flatten)[i]? = some (Proofs.Ytamnpblijdgdaaa.val x) := by
  rw [← h.val, List.getElem?_map, hx]; rfl
theorem homeW_stop {m : DM} (hs : stopped m = true) (r : Int) (g : Nat) : ∀ (l : List HB) (o : Nat), homeW r g m o l = m
  | [], _ => rfl
  | x :: l, o => by
    show homeW r g (if x.lg then m.doWrite r _ _ else m) (o + 1) l = m
    rw [show (if x.lg then m.doWrite r ((2 + g + o : Nat) : Int) (sealB 0 x.k o x.bs) else m) = m by split; exact stop_write hs _ _ _; rfl, homeW_stop hs r g l]
theorem begin_stop {m : DM} (hs : stopped m = true) (r : Int) (e : Nat) : m.doBegin r e = m := by
  unfold DM.doBegin
  rw [stop_barrier hs, stop_write hs, stop_barrier hs]
/-- Homes that were written, where nothing stopped. -/
theorem home_now {r g N : Nat} : ∀ (l : List HB) (o : Nat) (m : DM), Fit m r N → 2 + g + o + l.length ≤ N → HBsOk l → stopped (homeW r g m o l) = false →
    Fit (homeW r g m o l) r N ∧ (∀ j, (j < 2 + g + o ∨ 2 + g + o + l.length ≤ j) → (nowRow (homeW r g m o l) r)[j]? = (nowRow m r)[j]?) ∧ ∀ (i : Nat) (x : HB), l[i]? = some x → (nowRow (homeW r g m o l) r)[2 + g + (o + i)]? = if x.lg then some (sealB 0 x.k (o + i) x.bs) else (nowRow m r)[2 + g + (o + i)]?
  | [], o, m, hf, _, _, _ => ⟨hf, fun _ _ => rfl, fun i x hx => by cases hx⟩
  | y :: l, o, m, hf, hN, hok, hst => by
    rw [List.length_cons] at hN
    have hy := hok y (by simp)
    have hs : stopped m = false := by
      cases hs : stopped m
      · rfl
      · rw [homeW_stop hs, hs] at hst; cases hst
    have hst' : stopped (homeW r g (if y.lg then m.doWrite r ((2 + g + o : Nat) : Int) (sealB 0 y.k o y.bs) else m) (o + 1) l) = false := hst
    cases hlg : y.lg
    · rw [hlg] at hst'
      obtain ⟨h1, h2, h3⟩ := home_now l (o + 1) m hf (by omega) (fun x hx => hok x (by simp [hx])) hst'
      have e : homeW r g m o (y :: l) = homeW r g m (o + 1) l := by show homeW r g (if y.lg then _ else _) (o + 1) l = _; rw [hlg]; rfl
      rw [e]
      refine ⟨h1, fun j hj => h2 j (by rw [List.length_cons] at hj; omega), fun i x hx => ?_⟩
      cases i with
      | zero =>
        injection hx with hx; subst hx
        rw [hlg, Nat.add_zero, h2 _ (by omega)]; rfl
      | succ i =>
        have := h3 i x hx
        rw [show o + 1 + i = o + (i + 1) by omega] at this
        exact this
    · rw [hlg] at hst'
      obtain ⟨w1, _, w3, _⟩ := hf.write hs (i := 2 + g + o) (by omega) (sealB_blk o hy.k hy.len hy.b)
      obtain ⟨h1, h2, h3⟩ := home_now l (o + 1) _ w1 (by omega) (fun x hx => hok x (by simp [hx])) hst'
      have e : homeW r g m o (y :: l) = homeW r g (m.doWrite r ((2 + g + o : Nat) : Int) (sealB 0 y.k o y.bs)) (o + 1) l := by show homeW r g (if y.lg then _ else _) (o + 1) l = _; rw [hlg]; rfl
      rw [e]
      refine ⟨h1, fun j hj => by rw [h2 j (by rw [List.length_cons] at hj; omega), w3, if_neg (by rw [List.length_cons] at hj; omega)], fun i x hx => ?_⟩
      cases i with
      | zero =>
        injection hx with hx; subst hx
        show (nowRow _ r)[2 + g + o]? = if y.lg then some (sealB 0 y.k o y.bs) else (nowRow m r)[2 + g + o]?
        rw [hlg, h2 _ (by omega), w3, if_pos rfl]; rfl
      | succ i =>
        have := h3 i x hx
        rw [show o + 1 + i = o + (i + 1) by omega, w3, if_neg (show ¬ 2 + g + (o + (i + 1)) = 2 + g + o by omega)] at this
        exact this
theorem takeA_anchor {e : Nat} (he : e < 65000) : takeA 0 (anchorB 0 e) = e := by
  unfold takeA
  rw [if_pos ((takenA_anchor (lb := 0) (lb' := 0) (e := e) (by omega)).2 ⟨rfl, by omega⟩)]
  exact anE_anchor (by omega)
theorem idle_of_now {m : DM} {r n g e : Nat} {S : List Bk} (fit : Fit m r (2 + g + n)) (hs : AllSure m r) (e1 : 1 ≤ e) (e2 : e < 65000) (len : S.length = n) (ok : BksOk S) (n200 : n ≤ 200) (an : (nowRow m r)[e % 2]? = some (anchorB 0 e)) (ao : ∀ b, (nowRow m r)[(e + 1) % 2]? = some b → anOk b ((e + 1) % 2) = true → takeA 0 b < e)
    (hm : ∀ (i : Nat) (x : Bk), S[i]? = some x → (nowRow m r)[2 + g + i]? = some (sealB 0 x.k i x.bs)) (od : ∀ i, i < g → ∀ b, (nowRow m r)[2 + i]? = some b → Old e b) : Idle m r n g e S [] 0 [] 0 :=
  ⟨fit, e1, e2, len, ok, n200, (fun l hl => by cases hl), Nat.le_refl _, Nat.zero_le _, fun b hb => by have := hs _ _ hb; rw [an] at this; injection this with this; exact this.symm, fun b hb => ao b (hs _ _ hb), fun i x hx b hb => by have := hs _ _ hb; rw [hm i x hx] at this; injection this with this; exact this.symm, (fun i c hc => by cases hc), (fun i c hc => by cases hc), (fun i c hc => by cases hc), Or.inl rfl, fun i hi => by omega, fun i hi => by omega, fun i _ hi b hb => od i hi b (hs _ _ hb)⟩
/-- An epoch that is begun, where nothing stopped. -/
theorem begin_now {m : DM} {r N e : Nat} (hf : Fit m r N) (hN : 2 ≤ N) (hst : stopped (m.doBegin r e) = false) : Fit (m.doBegin r e) r N ∧ AllSure (m.doBegin r e) r ∧ ∀ j, (nowRow (m.doBegin r e) r)[j]? = if j = e % 2 then some (anchorB 0 e) else (nowRow m r)[j]? := by
  have hs : stopped m = false := by
    cases hs : stopped m
    · rfl
    · rw [begin_stop hs, hs] at hst; cases hst
  obtain ⟨b1, _, b3, b4, _⟩ := hf.barrier hs
  have hm2 : e % 2 < 2 := Nat.mod_lt _ (by omega)
  obtain ⟨w1, _, w3, _⟩ := b1.write b4 (i := e % 2) (by omega) ⟨anchorB_length 0 e, anchorB_allB e (by omega)⟩
  have hst' : stopped (((m.doBarrier r).doWrite r ((e % 2 : Nat) : Int) (anchorB 0 e)).doBarrier r) = false := hst
  have hs2 : stopped ((m.doBarrier r).doWrite r ((e % 2 : Nat) : Int) (anchorB 0 e)) = false := by
    cases hs2 : stopped ((m.doBarrier r).doWrite r ((e % 2 : Nat) : Int) (anchorB 0 e))
    · rfl
    · rw [stop_barrier hs2, hs2] at hst'; cases hst'
  obtain ⟨c1, c2, c3, _, _⟩ := w1.barrier hs2
  refine ⟨c1, fun j c hc => ?_, fun j => ?_⟩
  · show (nowRow (((m.doBarrier r).doWrite r ((e % 2 : Nat) : Int) (anchorB 0 e)).doBarrier r) r)[j]? = _
    rw [c3]; exact c2 j c hc
  · show (nowRow (((m.doBarrier r).doWrite r ((e % 2 : Nat) : Int) (anchorB 0 e)).doBarrier r) r)[j]? = _
    rw [c3, w3, b3]
/-- Home, where nothing stopped. -/
theorem Mtb.home {m : DM} {r n g e : Nat} {S0 : List Bk} {Rs : List (List Wr)} {v : VM} (h : Mtb m r n g e S0 Rs) (ht : Tied v r n g e S0 Rs) (he : e + 1 < 65000) (hst : stopped (homeM m v) = false) : Idle (homeM m v) r n g (e + 1) (applyW S0 Rs.flatten) [] 0 [] 0 ∧ AllSure (homeM m v) r := by
  unfold homeM at hst ⊢
  rw [ht.vr, ht.vg, ht.ve] at hst ⊢
  have hBl : v.B.length = n := ht.vok.len.trans ht.vn
  have hs1 : stopped (homeW r g m 0 v.B) = false := by
    cases hs : stopped (homeW r g m 0 v.B)
    · rfl
    · rw [begin_stop hs, hs] at hst; cases hst
  obtain ⟨h1, h2, h3⟩ := home_now v.B 0 m h.fit (by omega) ht.vok.ok hs1
  obtain ⟨c1, c2, c3⟩ := begin_now h1 (by omega) hst
  have hm2 : ∀ x : Nat, x % 2 < 2 := fun x => Nat.mod_lt _ (by omega)
  have hlen : (applyW S0 Rs.flatten).length = n := by rw [applyW_length]; exact h.len
  refine ⟨idle_of_now c1 c2 (by omega) he hlen (applyW_ok (fun w hw => ?_) (fun w hw => ?_) h.ok) h.n200 (by rw [c3, if_pos rfl]) (fun b hb ha => ?_) (fun i x hx => ?_) (fun i hi b hb => ?_), c2⟩
  · obtain ⟨l, hl, hw⟩ := List.mem_flatten.1 hw
    exact (h.rs l hl).2 w hw
  · obtain ⟨l, hl, hw⟩ := List.mem_flatten.1 hw
    exact (h.rs l hl).1.kinds w hw
  · rw [c3, if_neg (by omega), h2 _ (by have := hm2 (e + 1 + 1); omega), show (e + 1 + 1) % 2 = e % 2 by omega, h.an] at hb
    injection hb with hb
    rw [← hb, takeA_anchor (by omega)]; omega
  · have hi := (List.getElem?_eq_some_iff.1 hx).1
    rw [hlen] at hi
    obtain ⟨y, hy⟩ : ∃ y, v.B[i]? = some y := ⟨_, List.getElem?_eq_getElem (by omega)⟩
    have hxy := ht.at_ hy
    rw [hx] at hxy
    injection hxy with hxy
    have h4 := h3 i y hy
    rw [Nat.zero_add] at h4
    rw [c3, if_neg (by have := hm2 (e + 1); omega), h4, hxy]
    cases hlg : y.lg
    · have hu := ht.fl i y hy hlg
      rw [applyW_unt _ _ _ hu] at hx
      have h5 := h.hm i x hx hu
      rw [hxy] at h5
      exact h5
    · rfl
  · rw [c3, if_neg (by have := hm2 (e + 1); omega), h2 _ (by omega)] at hb
    exact h.od i hi b hb
end Go.Proofs.Ytamnpblijdgdaaa
