/- Changes as numbers: writes, records, anchors; what lies in memory. Of no function. -/
import Derived.Test.YtflldlhfeiamnaaBj
namespace Go.Proofs.Ytflldlhfeiamnaa
open Go.ChangeShapes Go.WideShapes Go.ChangeAt Go.RowKit
set_option linter.unusedVariables false
/-- A write. -/
structure Wr where
  (t k : Int) (bs : List Int)
structure Wr.Ok (x : Wr) : Prop where
  t : i64 x.t
  k : i64 x.k
  len : x.bs.length = 56
  b : AllB x.bs
def WrsOk (l : List Wr) : Prop := ∀ x ∈ l, x.Ok
/-- Its cells. -/
def wrL (x : Wr) : List Value := .int .i64 x.t :: blkL x.k x.bs
def wrA (x : Wr) : Array Value := (wrL x).toArray
theorem wrL_length {x : Wr} (h : x.bs.length = 56) : (wrL x).length = 58 := by unfold wrL blkL; simp [Bs_length, h]
theorem wrA_size {x : Wr} (h : x.bs.length = 56) : (wrA x).size = 58 := by unfold wrA; simp [wrL_length h]
theorem wrA_list (x : Wr) : (wrA x).toList = wrL x := by unfold wrA; simp
theorem wrL_one (x : Wr) : ∀ v ∈ wrL x, v.oneCell' = true := by
  intro v hv
  unfold wrL blkL at hv
  simp only [List.mem_cons] at hv
  rcases hv with rfl | rfl | hv
  · rfl
  · rfl
  · exact Bs_one x.bs v hv
theorem wrA_one (x : Wr) : (wrA x).all (·.oneCell') = true := Array.all_eq_true_iff_forall_mem.2 fun v hv => wrL_one x v (by unfold wrA at hv; simpa using hv)
def WrAt (w : World) (p : Addr) (x : Wr) : Prop := ∀ j v, (wrL x)[j]? = some v → w.cell? (p.add j) = some v
/-- Writes lie behind a slice. -/
def Wrs (w : World) (A : Option Addr) (l : List Wr) : Prop := ∀ i x, l[i]? = some x → ∃ a, A = some a ∧ WrAt w (a.add (i * 58)) x
theorem WrAt.keep {w w' : World} {p : Addr} {x : Wr} (h : WrAt w p x) (hb : Below w.heap.size w w') : WrAt w' p x := fun j v hj => keepC hb (h j v hj)
theorem Wrs.keep {w w' : World} {A : Option Addr} {l : List Wr} (h : Wrs w A l) (hb : Below w.heap.size w w') : Wrs w' A l := fun i x hi =>
  let ⟨a, e, hs⟩ := h i x hi; ⟨a, e, hs.keep hb⟩
theorem Wrs.drew {w : World} {A : Option Addr} {l : List Wr} (h : Wrs w A l) (n : Nat) : Wrs (w.drewN n) A l := h
/-- One change? -/
def MayL (l : List Wr) : Prop := (1 ≤ l.length ∧ l.length ≤ 12) ∧ (∀ x ∈ l, MayB x.k x.t) ∧ (l.map (·.t)).Nodup
instance (l : List Wr) : Decidable (MayL l) := by unfold MayL; infer_instance
/-! Numbers. -/
def numV (xs : List Int) : Nat := xs.foldl (fun n x => n * 256 + x.toNat) 0
theorem numV_snoc (xs : List Int) (x : Int) : numV (xs ++ [x]) = numV xs * 256 + x.toNat := by unfold numV; rw [List.foldl_append]; rfl
theorem numV_lt : ∀ (s : Nat) (xs : List Int), xs.length = s → AllB xs → numV xs < 256 ^ s := by
  intro s
  induction s with
  | zero => intro xs h _; rw [List.length_eq_zero_iff.1 h]; unfold numV; simp
  | succ s ih =>
    intro xs h hB
    rcases List.eq_nil_or_concat xs with rfl | ⟨l, x, rfl⟩
    · cases h
    · rw [List.concat_eq_append] at *
      rw [numV_snoc, Nat.pow_succ]
      have h1 := ih l (by simp at h; exact h) (fun y hy => hB y (by simp [hy]))
      have h2 := hB x (by simp)
      omega
theorem be_mul (n x : Nat) (hx : x < 256) : ∀ s, be (n * 256 + x) (s + 1) = be n s ++ [(x : Int)]
  | 0 => by
    show [(((n * 256 + x) / 256 ^ 0 % 256 : Nat) : Int)] = [(x : Int)]
    rw [Nat.pow_zero, Nat.div_one, show (n * 256 + x) % 256 = x by omega]
  | s + 1 => by
    show (((n * 256 + x) / 256 ^ (s + 1) % 256 : Nat) : Int) :: be (n * 256 + x) (s + 1) = (((n / 256 ^ s % 256 : Nat) : Int) :: be n s) ++ [(x : Int)]
    rw [be_mul n x hx s, Nat.pow_succ, Nat.mul_comm (256 ^ s) 256, ← Nat.div_div_eq_div_mul, show (n * 256 + x) / 256 = n by omega]
    rfl
theorem be_snoc (n s : Nat) : be n (s + 1) = be (n / 256) s ++ [((n % 256 : Nat) : Int)] := by
  have h := be_mul (n / 256) (n % 256) (Nat.mod_lt _ (by omega)) s
  rwa [show n / 256 * 256 + n % 256 = n by omega] at h
theorem numV_be : ∀ (s n : Nat), n < 256 ^ s → numV (be n s) = n
  | 0, n, h => by simp at h; subst h; rfl
  | s + 1, n, h => by
    rw [be_snoc, numV_snoc, numV_be s (n / 256) (by rw [Nat.pow_succ] at h; exact Nat.div_lt_of_lt_mul (by omega)), Int.toNat_natCast]
    omega
theorem be_numV : ∀ (s : Nat) (xs : List Int), xs.length = s → AllB xs → be (numV xs) s = xs := by
  intro s
  induction s with
  | zero => intro xs h _; rw [List.length_eq_zero_iff.1 h]; rfl
  | succ s ih =>
    intro xs h hB
    rcases List.eq_nil_or_concat xs with rfl | ⟨l, x, rfl⟩
    · cases h
    · rw [List.concat_eq_append] at *
      have h2 := hB x (by simp)
      rw [numV_snoc, be_mul _ _ (by omega), ih l (by simp at h; exact h) (fun y hy => hB y (by simp [hy]))]
      congr 2
      omega
/-! Blocks. -/
def fillB (xs : List Int) : List Int := xs ++ List.replicate (60 - xs.length) 0
def sumd (xs : List Int) : List Int := fillB xs ++ be (sumV (fillB xs)) 4
theorem fillB_length {xs : List Int} (h : xs.length ≤ 60) : (fillB xs).length = 60 := by unfold fillB; simp; omega
theorem sumd_length {xs : List Int} (h : xs.length ≤ 60) : (sumd xs).length = 64 := by unfold sumd; rw [List.length_append, fillB_length h, be_length]
theorem fillB_allB {xs : List Int} (h : AllB xs) : AllB (fillB xs) := AllB.append h fun x hx => by rw [List.eq_of_mem_replicate hx]; omega
theorem sumd_allB {xs : List Int} (h : AllB xs) : AllB (sumd xs) := AllB.append (fillB_allB h) (be_allB _ _)
/-- The row of places and kinds. -/
def told : List Wr → List Int
  | [] => []
  | x :: l => (be x.t.toNat 2 ++ [x.k]) ++ told l
theorem told_append : ∀ (l m : List Wr), told (l ++ m) = told l ++ told m
  | [], _ => rfl
  | x :: l, m => by show _ ++ told (l ++ m) = _; rw [told_append l m, ← List.append_assoc]; rfl
theorem told_length : ∀ (l : List Wr), (told l).length = 3 * l.length
  | [] => rfl
  | x :: l => by
    show ((be x.t.toNat 2 ++ [x.k]) ++ told l).length = _
    rw [List.length_append, told_length l]; simp [be_length]; omega
theorem told_allB : ∀ {l : List Wr}, (∀ x ∈ l, MayB x.k x.t) → AllB (told l)
  | [], _ => fun x hx => by cases hx
  | x :: l, h => AllB.append (AllB.append (be_allB _ _) (fun y hy => by
      simp only [List.mem_cons, List.not_mem_nil, or_false] at hy
      subst hy
      have := (h x (by simp)).1
      omega)) (told_allB fun y hy => h y (by simp [hy]))
def front (lb : Int) (e s : Nat) (n : Nat) : List Int := [72, lb] ++ be e 4 ++ be s 4 ++ [(n : Int)]
theorem front_length (lb : Int) (e s n : Nat) : (front lb e s n).length = 11 := by unfold front; simp [be_length]
def headR (lb : Int) (e s : Nat) (l : List Wr) : List Int := front lb e s l.length ++ told l
theorem headR_length (lb : Int) (e s : Nat) (l : List Wr) : (headR lb e s l).length = 11 + 3 * l.length := by unfold headR; rw [List.length_append, front_length, told_length]
theorem front_allB {lb : Int} (e s : Nat) {n : Nat} (hl : 0 ≤ lb ∧ lb ≤ 255) (hn : n ≤ 12) : AllB (front lb e s n) := by
  unfold front
  refine AllB.append (AllB.append (AllB.append (fun x hx => ?_) (be_allB _ _)) (be_allB _ _)) (fun x hx => ?_)
  · simp only [List.mem_cons, List.not_mem_nil, or_false] at hx
    rcases hx with rfl | rfl <;> omega
  · simp only [List.mem_cons, List.not_mem_nil, or_false] at hx
    subst hx; omega
theorem headR_allB {lb : Int} (e s : Nat) {l : List Wr} (hl : 0 ≤ lb ∧ lb ≤ 255) (hm : MayL l) : AllB (headR lb e s l) := AllB.append (front_allB e s hl hm.1.2) (told_allB hm.2.1)
def bearB (e s : Nat) (bs : List Int) : List Int := bs ++ be e 2 ++ be s 2
theorem bearB_length {e s : Nat} {bs : List Int} (h : bs.length = 56) : (bearB e s bs).length = 60 := by unfold bearB; simp [be_length, h]
theorem bearB_allB {e s : Nat} {bs : List Int} (h : AllB bs) : AllB (bearB e s bs) := AllB.append (AllB.append h (be_allB _ _)) (be_allB _ _)
/-- A record's blocks. -/
def putL (lb : Int) (e s : Nat) (l : List Wr) : List (List Int) := sumd (headR lb e s l) :: l.map fun x => sumd (bearB e s x.bs)
theorem putL_length (lb : Int) (e s : Nat) (l : List Wr) : (putL lb e s l).length = 1 + l.length := by unfold putL; simp; omega
def anchorB (lb : Int) (e : Nat) : List Int := sumd ([65, 78, lb] ++ be e 4)
theorem anchorB_length (lb : Int) (e : Nat) : (anchorB lb e).length = 64 := sumd_length (by simp [be_length])
theorem anchorB_allB {lb : Int} (e : Nat) (h : 0 ≤ lb ∧ lb ≤ 255) : AllB (anchorB lb e) := sumd_allB (AllB.append (fun x hx => by
  simp only [List.mem_cons, List.not_mem_nil, or_false] at hx
  rcases hx with rfl | rfl | rfl <;> omega) (be_allB _ _))
/-! What is read. -/
def cnt (log : List (List Int)) : Nat := ((log.headD []).getD 10 0).toNat
def padB (b : List Int) : List Int := b.take 56 ++ List.replicate (56 - b.length) 0
theorem padB_length (b : List Int) : (padB b).length = 56 := by unfold padB; simp; omega
theorem padB_allB {b : List Int} (h : AllB b) : AllB (padB b) := AllB.append (fun x hx => h x (List.mem_of_mem_take hx)) fun x hx => by rw [List.eq_of_mem_replicate hx]; omega
def wAt (log : List (List Int)) (i : Nat) : Wr := ⟨numV (((log.headD []).drop (11 + 3 * i)).take 2), (log.headD []).getD (13 + 3 * i) 0, padB (log.getD (1 + i) [])⟩
def readW (log : List (List Int)) (n : Nat) : List Wr := (List.range n).map (wAt log)
theorem readW_length (log : List (List Int)) (n : Nat) : (readW log n).length = n := by unfold readW; simp
theorem readW_snoc (log : List (List Int)) (n : Nat) : readW log (n + 1) = readW log n ++ [wAt log n] := by unfold readW; rw [List.range_succ, List.map_append]; rfl
def CanRead (log : List (List Int)) : Prop := (log.headD []).length = 64 ∧ cnt log ≤ 12 ∧ cnt log < log.length
instance (log : List (List Int)) : Decidable (CanRead log) := by unfold CanRead; infer_instance
def Taken (lb : Int) (e s : Nat) (log : List (List Int)) : Prop := CanRead log ∧ MayL (readW log (cnt log)) ∧ putL lb e s (readW log (cnt log)) = log.take (1 + cnt log)
instance (lb : Int) (e s : Nat) (log : List (List Int)) : Decidable (Taken lb e s log) := by unfold Taken; infer_instance
def takeV (lb : Int) (e s : Nat) (log : List (List Int)) : List Wr := if Taken lb e s log then readW log (cnt log) else []
def takeN (lb : Int) (e s : Nat) (log : List (List Int)) : Nat := if Taken lb e s log then 1 + cnt log else 0
def TxOk (ls : List (List Int)) : Prop := ∀ b ∈ ls, AllB b
theorem wAt_ok {log : List (List Int)} (h : TxOk log) (i : Nat) : (wAt log i).Ok := by
  have hf : AllB (log.headD []) := by
    cases log with
    | nil => exact fun x hx => by cases hx
    | cons b l => exact h b (by simp)
  refine ⟨?_, ?_, padB_length _, padB_allB ?_⟩
  · have h1 : numV (((log.headD []).drop (11 + 3 * i)).take 2) < 256 ^ (((log.headD []).drop (11 + 3 * i)).take 2).length := numV_lt _ _ rfl (fun x hx => hf x (List.mem_of_mem_drop (List.mem_of_mem_take hx)))
    have h2 : 256 ^ (((log.headD []).drop (11 + 3 * i)).take 2).length ≤ 256 ^ 2 := Nat.pow_le_pow_right (by omega) (List.length_take_le _ _)
    unfold wAt; simp only; constructor <;> omega
  · show i64 ((log.headD []).getD (13 + 3 * i) 0)
    rw [List.getD]
    cases hx : (log.headD [])[13 + 3 * i]? with
    | none => simp; constructor <;> omega
    | some x => have := hf x (List.mem_of_getElem? hx); simp; constructor <;> omega
  · rw [List.getD]
    cases hx : log[1 + i]? with
    | none => exact fun x hx => by cases hx
    | some b => exact h b (List.mem_of_getElem? hx)
theorem readW_ok {log : List (List Int)} (h : TxOk log) (n : Nat) : WrsOk (readW log n) := fun x hx => by
  unfold readW at hx
  obtain ⟨i, _, rfl⟩ := List.mem_map.1 hx
  exact wAt_ok h i
theorem takeV_ok {lb : Int} {e s : Nat} {log : List (List Int)} (h : TxOk log) : WrsOk (takeV lb e s log) := by
  unfold takeV
  split
  · exact readW_ok h _
  · exact fun x hx => by cases hx
/-! Texts in memory. -/
/-- Texts lie behind a slice. -/
def Tx (w : World) (A : Option Addr) (ls : List (List Int)) : Prop := ∀ i b, ls[i]? = some b → ∃ a B d, A = some a ∧ w.cell? (a.add i) = some (.slice B b.length d) ∧ b.length ≤ d ∧ d ≤ 9223372036854775807 ∧ Byt w B b
theorem Tx.keep {w w' : World} {A : Option Addr} {ls : List (List Int)} (h : Tx w A ls) (hb : Below w.heap.size w w') : Tx w' A ls := fun i b hi =>
  let ⟨a, B, d, e, hc, h1, h2, hy⟩ := h i b hi; ⟨a, B, d, e, keepC hb hc, h1, h2, hy.keep hb⟩
theorem Tx.drew {w : World} {A : Option Addr} {ls : List (List Int)} (h : Tx w A ls) (n : Nat) : Tx (w.drewN n) A ls := h
theorem Tx.take {w : World} {A : Option Addr} {ls : List (List Int)} (h : Tx w A ls) (k : Nat) : Tx w A (ls.take k) := fun i x hi => h i x (by
  rw [List.getElem?_take] at hi; split at hi; exact hi; cases hi)
/-- Texts that the call owns, table and all. -/
def OwnTx (w : World) (base : Nat) (v : Value) (ls : List (List Int)) : Prop :=
  ∃ xs : List Value, w.ownsRow base 25 1 v ls.length xs ∧ ∀ (i : Nat) (b : List Int), ls[i]? = some b → ∃ u, xs[i]? = some u ∧ w.ownsRow base 5 1 u b.length (Bs b)
theorem ownsRow_mono {w : World} {b b' : Nat} {t : TypeId} {sz n : Nat} {v : Value} {xs : List Value} (h : w.ownsRow b t sz v n xs) (hb : b' ≤ b) : w.ownsRow b' t sz v n xs := h.mono hb
theorem OwnTx.mono {w : World} {b b' : Nat} {v : Value} {ls : List (List Int)} (h : OwnTx w b v ls) (hb : b' ≤ b) : OwnTx w b' v ls := by
  obtain ⟨xs, h1, h2⟩ := h
  exact ⟨xs, h1.mono hb, fun i b hi => let ⟨u, e, h3⟩ := h2 i b hi; ⟨u, e, h3.mono hb⟩⟩
theorem OwnTx.keep {w w' : World} {base : Nat} {v : Value} {ls : List (List Int)} (h : OwnTx w base v ls) (hb : Below w.heap.size w w') : OwnTx w' base v ls := by
  obtain ⟨xs, h1, h2⟩ := h
  exact ⟨xs, ownB h1 hb, fun i b hi => let ⟨u, e, h3⟩ := h2 i b hi; ⟨u, e, ownB h3 hb⟩⟩
theorem OwnTx.nil (w : World) (base : Nat) : OwnTx w base (.slice none 0 0) [] := ⟨[], World.ownsRow_nil _ _ _ _, fun i b hi => by cases hi⟩
/-- A reader's view. -/
theorem OwnTx.tx {w : World} {base : Nat} {v : Value} {ls : List (List Int)} (h : OwnTx w base v ls) : ∃ A d, v = .slice A ls.length d ∧ ls.length ≤ d ∧ d ≤ 9223372036854775807 ∧ Tx w A ls := by
  obtain ⟨xs, h1, h2⟩ := h
  have key : ∀ i b, ls[i]? = some b → ∃ B d, xs[i]? = some (Value.slice B b.length d) ∧ b.length ≤ d ∧ d ≤ 9223372036854775807 ∧ Byt w B b := fun i b hi => by
    obtain ⟨u, e, h3⟩ := h2 i b hi
    obtain ⟨B, d, rfl, h4, h5, h6⟩ := byt_own h3 rfl
    exact ⟨B, d, e, h4, h5, h6⟩
  rcases h1.2 with ⟨rfl, h0⟩ | ⟨g, cap, cur, rfl, hb, hg, hn', hm, hs, ht⟩
  · refine ⟨none, 0, by rw [h0], by omega, by omega, fun i b hi => ?_⟩
    rw [List.length_eq_zero_iff.1 h0] at hi; cases hi
  · refine ⟨some ⟨g, 0, none⟩, cap, rfl, hn', by simp only [maxLen] at hm; omega, fun i b hi => ?_⟩
    obtain ⟨B, d, e, h4, h5, h6⟩ := key i b hi
    exact ⟨_, B, d, rfl, h1.cells (g := g) rfl _ _ e, h4, h5, h6⟩
theorem types_ne : (25 : TypeId) ≠ 5 := by decide
/-- The table's block is none of the texts'. -/
theorem own_far {w : World} {b b' : Nat} {t t' : TypeId} {sz sz' n n' : Nat} {v v' : Value} {xs xs' : List Value} (hne : t ≠ t') (h : w.ownsRow b t sz v n xs) (h' : w.ownsRow b' t' sz' v' n' xs') : v'.ownBlock = none ∨ v'.ownBlock ≠ v.ownBlock := by
  rcases h'.2 with ⟨rfl, _⟩ | ⟨g', cap', cur', rfl, _, hg', _⟩
  · exact Or.inl rfl
  · right
    rcases h.2 with ⟨rfl, _⟩ | ⟨g, cap, cur, rfl, _, hg, _⟩
    · simp [Value.ownBlock]
    · intro e
      simp [Value.ownBlock] at e
      subst e
      rw [hg] at hg'
      injection hg' with hg'
      injection hg' with e1 e2
      exact hne e2
end Go.Proofs.Ytflldlhfeiamnaa
