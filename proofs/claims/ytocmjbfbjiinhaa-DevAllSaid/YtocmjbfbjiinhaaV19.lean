/- Contract: Copy. -/
import Derived.Test.YtocmjbfbjiinhaaV18
import Derived.Test.YtocmjbfbjiinhaaRp
namespace Go.Proofs.Ytocmjbfbjiinhaa
open Go.ChangeShapes Go.WideShapes Go.ChangeAt Go.RowKit
set_option linter.unusedVariables false
theorem encW_one (l : List Wr) : ∀ x ∈ encW l, x.oneCell' = true := by
  intro x hx
  unfold encW at hx
  obtain ⟨b, _, hb⟩ := List.mem_flatMap.1 hx
  exact Wr.cs_one b x hb
theorem encN_one (l : List Nat) : ∀ x ∈ encN l, x.oneCell' = true := by
  intro x hx
  unfold encN at hx
  obtain ⟨b, _, hb⟩ := List.mem_map.1 hx
  subst hb; rfl
/-- Two copies that lie apart. -/
def Dis (w0 : World) (m : DM) (v u : Value) (w : World) : Prop := ∃ lo hi lo' hi' : Nat, (hi ≤ lo' ∨ hi' ≤ lo) ∧ w0.heap.size ≤ lo ∧ w0.heap.size ≤ lo' ∧ TabIn w lo hi v m.now ∧ TabIn w lo' hi' u m.sure
theorem Dis.on {w0 : World} {m : DM} {v u : Value} {w w' : World} (h : Dis w0 m v u w) (hg : w.grownBy w' none) : Dis w0 m v u w' := by
  obtain ⟨lo, hi, lo', hi', h1, h2, h3, h4, h5⟩ := h
  exact ⟨lo, hi, lo', hi', h1, h2, h3, h4.keep (fun k hk _ _ => hg.block k hk (by simp)) hg.size, h5.keep (fun k hk _ _ => hg.block k hk (by simp)) hg.size⟩
def VY (w0 : World) (hp : Nat) (L : DLay) (m : DM) (i : Nat) (v : Value) (w : World) : Prop :=
  match i with
  | 0 | 1 | 2 | 5 | 6 | 10 | 11 | 15 | 16 | 20 | 21 | 24 | 25 => v = .pointer (some ⟨hp, 0, none⟩)
  | 3 => v = L.sNow
  | 7 => v = .pointer (some ⟨hp, 1, none⟩)
  | 8 => v = L.sSure
  | 12 => v = .pointer (some ⟨hp, 2, none⟩)
  | 13 => v = L.sDone
  | 17 => v = .pointer (some ⟨hp, 3, none⟩)
  | 18 => v = L.sUns
  | 22 => v = .pointer (some ⟨hp, 4, none⟩)
  | 23 => v = .bool m.stops
  | 26 => v = .pointer (some ⟨hp, 5, none⟩)
  | 27 => v = .int .i64 m.left
  | 4 => ∃ lo hi : Nat, w0.heap.size ≤ lo ∧ TabIn w lo hi v m.now
  | 9 => ∃ lo hi : Nat, w0.heap.size ≤ lo ∧ TabIn w lo hi v m.sure
  | 14 => RowAt w (fun k => w0.heap.size ≤ k) 75 65 v m.done.length (encW m.done)
  | 19 => RowAt w (fun k => w0.heap.size ≤ k) 3 1 v m.uns.length (encN m.uns)
  | 28 => ∃ v9 v14 v19 v24, v = .agg #[v9, v14, v19, v24, .bool m.stops, .int .i64 m.left] ∧ Dis w0 m v9 v14 w ∧ RowAt w (fun k => w0.heap.size ≤ k) 75 65 v19 m.done.length (encW m.done) ∧ RowAt w (fun k => w0.heap.size ≤ k) 3 1 v24 m.uns.length (encN m.uns)
  | 29 => ∃ q v9 v14 v19 v24, v = .pointer (some ⟨q, 0, none⟩) ∧ w0.heap.size ≤ q ∧ w.heap[q]? = some (.cells #[v9, v14, v19, v24, .bool m.stops, .int .i64 m.left] 63 (0, 0)) ∧ Dis w0 m v9 v14 w ∧ RowAt w (fun k => w0.heap.size ≤ k) 75 65 v19 m.done.length (encW m.done) ∧ RowAt w (fun k => w0.heap.size ≤ k) 3 1 v24 m.uns.length (encN m.uns)
  | _ => True
def SY (w0 : World) (m : DM) (i : Nat) (v : Value) (w w' : World) : Prop := w.grownBy w' none ∧ (i = 4 → TabIn w' w.heap.size w'.heap.size v m.now) ∧ (i = 9 → TabIn w' w.heap.size w'.heap.size v m.sure) ∧ w0.heap.size ≤ w.heap.size
def RY (w0 : World) (m : DM) (i : Nat) (v : Value) (j : Nat) (u : Value) (w : World) : Prop := i = 4 → j = 9 → Dis w0 m v u w
theorem VY.on {w0 : World} {hp : Nat} {L : DLay} {m : DM} {i : Nat} {v : Value} {w w' : World} (h : VY w0 hp L m i v w) (hg : w.grownBy w' none) : VY w0 hp L m i v w' := by
  unfold VY at *
  split <;> try exact h
  · obtain ⟨lo, hi, h1, h2⟩ := h; exact ⟨lo, hi, h1, h2.keep (fun k hk _ _ => hg.block k hk (by simp)) hg.size⟩
  · obtain ⟨lo, hi, h1, h2⟩ := h; exact ⟨lo, hi, h1, h2.keep (fun k hk _ _ => hg.block k hk (by simp)) hg.size⟩
  · exact h.keep fun k hk _ => hg.block k hk (by simp)
  · exact h.keep fun k hk _ => hg.block k hk (by simp)
  · obtain ⟨v9, v14, v19, v24, e, h1, h2, h3⟩ := h
    exact ⟨v9, v14, v19, v24, e, h1.on hg, h2.keep fun k hk _ => hg.block k hk (by simp), h3.keep fun k hk _ => hg.block k hk (by simp)⟩
  · obtain ⟨q, v9, v14, v19, v24, e, hq, hc, h1, h2, h3⟩ := h
    exact ⟨q, v9, v14, v19, v24, e, hq, (hg.block q (room_lt hc) (by simp)).trans hc, h1.on hg, h2.keep fun k hk _ => hg.block k hk (by simp), h3.keep fun k hk _ => hg.block k hk (by simp)⟩
  · trivial
theorem RY.new {w0 : World} {hp : Nat} {L : DLay} {m : DM} {i j : Nat} {x vj : Value} {w w' : World} (hij : i ≠ j) (h : VY w0 hp L m j vj w) (hs : SY w0 m i x w w') : RY w0 m i x j vj w' ∧ RY w0 m j vj i x w' := by
  obtain ⟨hg, h4, h9, h0⟩ := hs
  constructor
  · rintro rfl rfl
    obtain ⟨lo, hi, h1, h2⟩ := h
    exact ⟨_, _, lo, hi, Or.inr h2.1, h0, h1, h4 rfl, h2.keep (fun k hk _ _ => hg.block k hk (by simp)) hg.size⟩
  · rintro rfl rfl
    obtain ⟨lo, hi, h1, h2⟩ := h
    exact ⟨lo, hi, _, _, Or.inl h2.1, h1, h0, h2.keep (fun k hk _ _ => hg.block k hk (by simp)) hg.size, h9 rfl⟩
theorem RowAt.ownerT {w : World} {Own Own' : Nat → Prop} {E : TypeId} {sz : Nat} {v : Value} {n : Nat} {xs : List Value} (h : RowAt w Own E sz v n xs) (ho : ∀ g cur, w.heap[g]? = some (.cells cur E (0, 0)) → v.ownBlock = some g → Own g → Own' g) : RowAt w Own' E sz v n xs := by
  refine ⟨h.1, fun g hg => ?_⟩
  rcases h.1.2 with ⟨rfl, _⟩ | ⟨g', cap, cur, rfl, _, hc, _⟩
  · cases hg
  · injection hg with e
    subst e
    exact ho _ cur hc rfl (h.2 _ rfl)
/-- A device out of its parts. -/
theorem dev_of_parts {w : World} {B q : Nat} {m : DM} {v9 v14 v19 v24 : Value} {lo hi lo' hi' : Nat} (hq : B ≤ q) (hd : w.heap[q]? = some (.cells #[v9, v14, v19, v24, .bool m.stops, .int .i64 m.left] 63 (0, 0)))
    (h1 : hi ≤ lo' ∨ hi' ≤ lo) (h2 : B ≤ lo) (h3 : B ≤ lo') (h4 : TabIn w lo hi v9 m.now) (h5 : TabIn w lo' hi' v14 m.sure)
    (h6 : RowAt w (fun k => B ≤ k) 75 65 v19 m.done.length (encW m.done)) (h7 : RowAt w (fun k => B ≤ k) 3 1 v24 m.uns.length (encN m.uns)) (hok : m.Ok) : ∃ F, Dev w F q m ∧ ∀ k, F k → B ≤ k := by
  classical
  obtain ⟨hh, Tn, hn⟩ := h4
  obtain ⟨hh', Ts, hs⟩ := h5
  let O : Nat → DRole := fun x => if x = q then .hd else if v19.ownBlock = some x then .done else if v24.ownBlock = some x then .uns else
    if lo ≤ x ∧ x < hi then (if Tn x = 0 then .nowT else .now (Tn x - 1)) else if lo' ≤ x ∧ x < hi' then (if Ts x = 0 then .sureT else .sure (Ts x - 1)) else .none
  have hO : ∀ x, O x = if x = q then .hd else if v19.ownBlock = some x then .done else if v24.ownBlock = some x then .uns else
    if lo ≤ x ∧ x < hi then (if Tn x = 0 then .nowT else .now (Tn x - 1)) else if lo' ≤ x ∧ x < hi' then (if Ts x = 0 then .sureT else .sure (Ts x - 1)) else .none := fun _ => rfl
  clear_value O
  have ty : ∀ {x cur E}, w.heap[x]? = some (.cells cur E (0, 0)) → (E ≠ 63 → x ≠ q) ∧ (E ≠ 75 → v19.ownBlock ≠ some x) ∧ (E ≠ 3 → v24.ownBlock ≠ some x) := by
    intro x cur E hx
    refine ⟨fun hE e => ?_, fun hE e => ?_, fun hE e => ?_⟩
    · subst e; rw [hd] at hx; injection hx with hx; injection hx with _ hx; exact hE hx.symm
    · rcases h6.1.2 with ⟨e', _⟩ | ⟨g, cap, cur', e', _, hc, _⟩
      · rw [e'] at e; cases e
      · rw [e'] at e; injection e with e; dsimp only at e; subst e; rw [hc] at hx; injection hx with hx; injection hx with _ hx; exact hE hx.symm
    · rcases h7.1.2 with ⟨e', _⟩ | ⟨g, cap, cur', e', _, hc, _⟩
      · rw [e'] at e; cases e
      · rw [e'] at e; injection e with e; dsimp only at e; subst e; rw [hc] at hx; injection hx with hx; injection hx with _ hx; exact hE hx.symm
  have tabO : ∀ {OT : Nat → Prop} {OR : Nat → Nat → Prop} {OT' : Nat → Prop} {OR' : Nat → Nat → Prop} {v : Value} {rows : List (List (List Int))}, RowsAt w OT OR 64 73 64 encB v rows →
      (∀ k, (k ≠ q ∧ v19.ownBlock ≠ some k ∧ v24.ownBlock ≠ some k) → OT k → OT' k) → (∀ r k, (k ≠ q ∧ v19.ownBlock ≠ some k ∧ v24.ownBlock ≠ some k) → OR r k → OR' r k) → RowsAt w OT' OR' 64 73 64 encB v rows := by
    intro OT OR OT' OR' v rows h a b
    obtain ⟨vs, t1, t2⟩ := h
    refine ⟨vs, t1.ownerT fun g cur hg _ ho => a g ⟨(ty hg).1 (by decide), (ty hg).2.1 (by decide), (ty hg).2.2 (by decide)⟩ ho, fun r row hr => ?_⟩
    obtain ⟨u, hu, t3⟩ := t2 r row hr
    exact ⟨u, hu, t3.ownerT fun g cur hg _ ho => b r g ⟨(ty hg).1 (by decide), (ty hg).2.1 (by decide), (ty hg).2.2 (by decide)⟩ ho⟩
  refine ⟨fun k => O k ≠ .none, ⟨O, ⟨v9, v14, v19, v24⟩, ⟨⟨hd, by rw [hO, if_pos rfl], ?_, ?_, ?_, ?_⟩, hok⟩, fun _ => Iff.rfl, fun k hk => ?_⟩, fun k hk => ?_⟩
  · refine tabO hn (fun k hk ho => ?_) (fun r k hk ho => ?_)
    · rw [hO, if_neg hk.1, if_neg hk.2.1, if_neg hk.2.2, if_pos ⟨ho.1, ho.2.1⟩, if_pos ho.2.2]
    · rw [hO, if_neg hk.1, if_neg hk.2.1, if_neg hk.2.2, if_pos ⟨ho.1, ho.2.1⟩, if_neg (by omega), ho.2.2]; rfl
  · refine tabO hs (fun k hk ho => ?_) (fun r k hk ho => ?_)
    · rw [hO, if_neg hk.1, if_neg hk.2.1, if_neg hk.2.2, if_neg (by omega), if_pos ⟨ho.1, ho.2.1⟩, if_pos ho.2.2]
    · rw [hO, if_neg hk.1, if_neg hk.2.1, if_neg hk.2.2, if_neg (by omega), if_pos ⟨ho.1, ho.2.1⟩, if_neg (by omega), ho.2.2]; rfl
  · exact h6.ownerT fun g cur hg he ho => by rw [hO, if_neg ((ty hg).1 (by decide)), if_pos he]
  · exact h7.ownerT fun g cur hg he ho => by rw [hO, if_neg ((ty hg).1 (by decide)), if_neg ((ty hg).2.1 (by decide)), if_pos he]
  · replace hk : O k ≠ .none := hk
    rw [hO] at hk
    split at hk
    · rename_i e; rw [e]; exact room_lt hd
    · split at hk
      · rename_i e; exact (h6.1.lt k e).2
      · split at hk
        · rename_i e; exact (h7.1.lt k e).2
        · split at hk
          · omega
          · split at hk
            · omega
            · exact absurd rfl hk
  · replace hk : O k ≠ .none := hk
    rw [hO] at hk
    split at hk
    · omega
    · split at hk
      · rename_i e; exact h6.2 k e
      · split at hk
        · rename_i e; exact h7.2 k e
        · split at hk
          · omega
          · split at hk
            · omega
            · exact absurd rfl hk
set_option maxRecDepth 100000 in
set_option maxHeartbeats 1600000 in
theorem copy_any {w : World} {O : Nat → DRole} {hp : Nat} {L : DLay} {m : DM} (h : DevAt w O hp L m) (hmax : m.done.length ≤ 1000000) :
    Calls Try.prog 20 #[.pointer (some ⟨hp, 0, none⟩)] w fun e w' => (∃ q F, e = .returned (.pointer (some ⟨q, 0, none⟩)) ∧ Dev w' F q m ∧ ∀ k, F k → w.heap.size ≤ k) ∧ Below w.heap.size w w' := by
  have HH := Lib.hid h
  clear h
  go_enter Try.func20, Try.ntmps20
  go_wp2_with fail
  have srefl : ∀ (W : World) (i : Nat) (v : Value), i ≠ 4 → i ≠ 9 → w.heap.size ≤ W.heap.size → SY w m i v W W := fun W i v h4 h9 h0 => ⟨World.grownBy.refl W _, fun h => absurd h h4, fun h => absurd h h9, h0⟩
  refine wp_region_rgp (VY w hp L m) (Below w.heap.size w) (SY w m) (RY w m) (by kernel_rfl) (by kernel_rfl) (fun i j x v w w' hij h hs => h.on hs.1) (fun i j k x vj vk w w' _ _ h hs => fun h1 h2 => (h h1 h2).on hs.1) (fun i j x vj w w' hij h hs => RY.new hij h hs) ((Below.refl _ _).drew) ?_
  simp only [RAll]
  refine ⟨?_, ?_, ?_, ?_, ?_, ?_, ?_, ?_, ?_, ?_, ?_, ?_, ?_, ?_, ?_, ?_, ?_, ?_, ?_, ?_, ?_, ?_, ?_, ?_, ?_, ?_, ?_, ?_, ?_, ?_, ?_⟩
  · refine RStepP.of rfl fun T W hag hJ hd hpr => ?_   -- 0: 5 := Op.move (Operand.tmp 0)
    have e0 : T.getD 0 undef = _ := (agree_at hag 0 (by kernel_rfl)).trans rfl
    clear hag hd hpr
    go_simp
    first | exact ⟨_, rfl, rfl, srefl _ _ _ (by decide) (by decide) hJ.size⟩ | exact ⟨_, rfl, rfl, hJ, srefl _ _ _ (by decide) (by decide) hJ.size⟩
  · refine RStepP.of rfl fun T W hag hJ hd hpr => ?_   -- 1: 6 := Op.nilCheck (Operand.tmp 5)
    have d5 : T.getD 5 undef = _ := hd ⟨0, .data⟩ (by simp) rfl _ rfl
    clear hag hd hpr
    go_simp
    first | exact ⟨_, rfl, rfl, srefl _ _ _ (by decide) (by decide) hJ.size⟩ | exact ⟨_, rfl, rfl, hJ, srefl _ _ _ (by decide) (by decide) hJ.size⟩
  · refine RStepP.of rfl fun T W hag hJ hd hpr => ?_   -- 2: 7 := Op.fieldAddr 63 (Operand.tmp 6) 0
    have d6 : T.getD 6 undef = _ := hd ⟨1, .data⟩ (by simp) rfl _ rfl
    clear hag hd hpr
    go_simp
    first | exact ⟨_, rfl, rfl, srefl _ _ _ (by decide) (by decide) hJ.size⟩ | exact ⟨_, rfl, rfl, hJ, srefl _ _ _ (by decide) (by decide) hJ.size⟩
  · refine RStepP.of rfl fun T W hag hJ hd hpr => ?_   -- 3: 8 := Op.load 60 (Operand.tmp 7)
    have d7 : T.getD 7 undef = _ := hd ⟨2, .data⟩ (by simp) rfl _ rfl
    have fct0 := (HH.out.below hJ).c0
    clear hag hd hpr
    go_simp
    first | exact ⟨_, rfl, rfl, srefl _ _ _ (by decide) (by decide) hJ.size⟩ | exact ⟨_, rfl, rfl, hJ, srefl _ _ _ (by decide) (by decide) hJ.size⟩
  · refine RStepP.of rfl fun T W hag hJ hd hpr => ?_   -- 4: 9 := Op.call { callee := Callee.value (Operand.func 38), args := #[Operand.
    have d8 : T.getD 8 undef = _ := hd ⟨3, .data⟩ (by simp) rfl _ rfl
    clear hag hd hpr
    go_simp
    refine (copied_any (HH.out.below hJ).now (by exact HH.out.ok.few) (fun r row hr => (HH.out.ok.rows r row hr).1)).mono ?_
    rintro e w' ⟨⟨v', rfl, ht⟩, hb⟩
    have hlo := hJ.size
    exact ⟨_, rfl, ⟨W.heap.size, w'.heap.size, hlo, ht⟩, keepB hJ hb, ⟨⟨hb.os, hb.tape, hb.output, hb.size, fun k hk _ => hb.block k hk⟩, fun _ => ht, fun h => by omega, hlo⟩⟩
  · refine RStepP.of rfl fun T W hag hJ hd hpr => ?_   -- 5: 10 := Op.move (Operand.tmp 0)
    have e0 : T.getD 0 undef = _ := (agree_at hag 0 (by kernel_rfl)).trans rfl
    clear hag hd hpr
    go_simp
    first | exact ⟨_, rfl, rfl, srefl _ _ _ (by decide) (by decide) hJ.size⟩ | exact ⟨_, rfl, rfl, hJ, srefl _ _ _ (by decide) (by decide) hJ.size⟩
  · refine RStepP.of rfl fun T W hag hJ hd hpr => ?_   -- 6: 11 := Op.nilCheck (Operand.tmp 10)
    have d10 : T.getD 10 undef = _ := hd ⟨5, .data⟩ (by simp) rfl _ rfl
    clear hag hd hpr
    go_simp
    first | exact ⟨_, rfl, rfl, srefl _ _ _ (by decide) (by decide) hJ.size⟩ | exact ⟨_, rfl, rfl, hJ, srefl _ _ _ (by decide) (by decide) hJ.size⟩
  · refine RStepP.of rfl fun T W hag hJ hd hpr => ?_   -- 7: 12 := Op.fieldAddr 63 (Operand.tmp 11) 1
    have d11 : T.getD 11 undef = _ := hd ⟨6, .data⟩ (by simp) rfl _ rfl
    clear hag hd hpr
    go_simp
    first | exact ⟨_, rfl, rfl, srefl _ _ _ (by decide) (by decide) hJ.size⟩ | exact ⟨_, rfl, rfl, hJ, srefl _ _ _ (by decide) (by decide) hJ.size⟩
  · refine RStepP.of rfl fun T W hag hJ hd hpr => ?_   -- 8: 13 := Op.load 60 (Operand.tmp 12)
    have d12 : T.getD 12 undef = _ := hd ⟨7, .data⟩ (by simp) rfl _ rfl
    have fct0 := (HH.out.below hJ).c1
    clear hag hd hpr
    go_simp
    first | exact ⟨_, rfl, rfl, srefl _ _ _ (by decide) (by decide) hJ.size⟩ | exact ⟨_, rfl, rfl, hJ, srefl _ _ _ (by decide) (by decide) hJ.size⟩
  · refine RStepP.of rfl fun T W hag hJ hd hpr => ?_   -- 9: 14 := Op.call { callee := Callee.value (Operand.func 38), args := #[Operand.
    have d13 : T.getD 13 undef = _ := hd ⟨8, .data⟩ (by simp) rfl _ rfl
    clear hag hd hpr
    go_simp
    refine (copied_any (HH.out.below hJ).sure (by rw [HH.out.ok.sureLen]; exact HH.out.ok.few) (fun r row hr => by obtain ⟨⟨row', h1, h2⟩, _⟩ := HH.out.ok.sures r row hr; rw [h2]; exact (HH.out.ok.rows r row' h1).1)).mono ?_
    rintro e w' ⟨⟨v', rfl, ht⟩, hb⟩
    have hlo := hJ.size
    exact ⟨_, rfl, ⟨W.heap.size, w'.heap.size, hlo, ht⟩, keepB hJ hb, ⟨⟨hb.os, hb.tape, hb.output, hb.size, fun k hk _ => hb.block k hk⟩, fun h => by omega, fun _ => ht, hlo⟩⟩
  · refine RStepP.of rfl fun T W hag hJ hd hpr => ?_   -- 10: 15 := Op.move (Operand.tmp 0)
    have e0 : T.getD 0 undef = _ := (agree_at hag 0 (by kernel_rfl)).trans rfl
    clear hag hd hpr
    go_simp
    first | exact ⟨_, rfl, rfl, srefl _ _ _ (by decide) (by decide) hJ.size⟩ | exact ⟨_, rfl, rfl, hJ, srefl _ _ _ (by decide) (by decide) hJ.size⟩
  · refine RStepP.of rfl fun T W hag hJ hd hpr => ?_   -- 11: 16 := Op.nilCheck (Operand.tmp 15)
    have d15 : T.getD 15 undef = _ := hd ⟨10, .data⟩ (by simp) rfl _ rfl
    clear hag hd hpr
    go_simp
    first | exact ⟨_, rfl, rfl, srefl _ _ _ (by decide) (by decide) hJ.size⟩ | exact ⟨_, rfl, rfl, hJ, srefl _ _ _ (by decide) (by decide) hJ.size⟩
  · refine RStepP.of rfl fun T W hag hJ hd hpr => ?_   -- 12: 17 := Op.fieldAddr 63 (Operand.tmp 16) 2
    have d16 : T.getD 16 undef = _ := hd ⟨11, .data⟩ (by simp) rfl _ rfl
    clear hag hd hpr
    go_simp
    first | exact ⟨_, rfl, rfl, srefl _ _ _ (by decide) (by decide) hJ.size⟩ | exact ⟨_, rfl, rfl, hJ, srefl _ _ _ (by decide) (by decide) hJ.size⟩
  · refine RStepP.of rfl fun T W hag hJ hd hpr => ?_   -- 13: 18 := Op.load 61 (Operand.tmp 17)
    have d17 : T.getD 17 undef = _ := hd ⟨12, .data⟩ (by simp) rfl _ rfl
    have fct0 := (HH.out.below hJ).c2
    clear hag hd hpr
    go_simp
    first | exact ⟨_, rfl, rfl, srefl _ _ _ (by decide) (by decide) hJ.size⟩ | exact ⟨_, rfl, rfl, hJ, srefl _ _ _ (by decide) (by decide) hJ.size⟩
  · refine RStepP.of rfl fun T W hag hJ hd hpr => ?_   -- 14: 19 := Op.call { callee := Callee.value (Operand.func 39), args := #[Operand.
    have d18 : T.getD 18 undef = _ := hd ⟨13, .data⟩ (by simp) rfl _ rfl
    clear hag hd hpr
    go_simp
    refine (cloneW_any (HH.out.below hJ).done (by omega) (encW_one _)).mono ?_
    rintro e w' ⟨⟨v', rfl, ht⟩, hb⟩
    exact ⟨_, rfl, ht.owner (fun k _ hk => by have := hJ.size; omega), keepB hJ hb, ⟨⟨hb.os, hb.tape, hb.output, hb.size, fun k hk _ => hb.block k hk⟩, (fun h => by omega), (fun h => by omega), hJ.size⟩⟩
  · refine RStepP.of rfl fun T W hag hJ hd hpr => ?_   -- 15: 20 := Op.move (Operand.tmp 0)
    have e0 : T.getD 0 undef = _ := (agree_at hag 0 (by kernel_rfl)).trans rfl
    clear hag hd hpr
    go_simp
    first | exact ⟨_, rfl, rfl, srefl _ _ _ (by decide) (by decide) hJ.size⟩ | exact ⟨_, rfl, rfl, hJ, srefl _ _ _ (by decide) (by decide) hJ.size⟩
  · refine RStepP.of rfl fun T W hag hJ hd hpr => ?_   -- 16: 21 := Op.nilCheck (Operand.tmp 20)
    have d20 : T.getD 20 undef = _ := hd ⟨15, .data⟩ (by simp) rfl _ rfl
    clear hag hd hpr
    go_simp
    first | exact ⟨_, rfl, rfl, srefl _ _ _ (by decide) (by decide) hJ.size⟩ | exact ⟨_, rfl, rfl, hJ, srefl _ _ _ (by decide) (by decide) hJ.size⟩
  · refine RStepP.of rfl fun T W hag hJ hd hpr => ?_   -- 17: 22 := Op.fieldAddr 63 (Operand.tmp 21) 3
    have d21 : T.getD 21 undef = _ := hd ⟨16, .data⟩ (by simp) rfl _ rfl
    clear hag hd hpr
    go_simp
    first | exact ⟨_, rfl, rfl, srefl _ _ _ (by decide) (by decide) hJ.size⟩ | exact ⟨_, rfl, rfl, hJ, srefl _ _ _ (by decide) (by decide) hJ.size⟩
  · refine RStepP.of rfl fun T W hag hJ hd hpr => ?_   -- 18: 23 := Op.load 22 (Operand.tmp 22)
    have d22 : T.getD 22 undef = _ := hd ⟨17, .data⟩ (by simp) rfl _ rfl
    have fct0 := (HH.out.below hJ).c3
    clear hag hd hpr
    go_simp
    first | exact ⟨_, rfl, rfl, srefl _ _ _ (by decide) (by decide) hJ.size⟩ | exact ⟨_, rfl, rfl, hJ, srefl _ _ _ (by decide) (by decide) hJ.size⟩
  · refine RStepP.of rfl fun T W hag hJ hd hpr => ?_   -- 19: 24 := Op.call { callee := Callee.value (Operand.func 40), args := #[Operand.
    have d23 : T.getD 23 undef = _ := hd ⟨18, .data⟩ (by simp) rfl _ rfl
    clear hag hd hpr
    go_simp
    refine (cloneN_any (HH.out.below hJ).uns (by rw [HH.out.ok.unsLen]; have := HH.out.ok.few; omega) (encN_one _)).mono ?_
    rintro e w' ⟨⟨v', rfl, ht⟩, hb⟩
    exact ⟨_, rfl, ht.owner (fun k _ hk => by have := hJ.size; omega), keepB hJ hb, ⟨⟨hb.os, hb.tape, hb.output, hb.size, fun k hk _ => hb.block k hk⟩, (fun h => by omega), (fun h => by omega), hJ.size⟩⟩
  · refine RStepP.of rfl fun T W hag hJ hd hpr => ?_   -- 20: 25 := Op.move (Operand.tmp 0)
    have e0 : T.getD 0 undef = _ := (agree_at hag 0 (by kernel_rfl)).trans rfl
    clear hag hd hpr
    go_simp
    first | exact ⟨_, rfl, rfl, srefl _ _ _ (by decide) (by decide) hJ.size⟩ | exact ⟨_, rfl, rfl, hJ, srefl _ _ _ (by decide) (by decide) hJ.size⟩
  · refine RStepP.of rfl fun T W hag hJ hd hpr => ?_   -- 21: 26 := Op.nilCheck (Operand.tmp 25)
    have d25 : T.getD 25 undef = _ := hd ⟨20, .data⟩ (by simp) rfl _ rfl
    clear hag hd hpr
    go_simp
    first | exact ⟨_, rfl, rfl, srefl _ _ _ (by decide) (by decide) hJ.size⟩ | exact ⟨_, rfl, rfl, hJ, srefl _ _ _ (by decide) (by decide) hJ.size⟩
  · refine RStepP.of rfl fun T W hag hJ hd hpr => ?_   -- 22: 27 := Op.fieldAddr 63 (Operand.tmp 26) 4
    have d26 : T.getD 26 undef = _ := hd ⟨21, .data⟩ (by simp) rfl _ rfl
    clear hag hd hpr
    go_simp
    first | exact ⟨_, rfl, rfl, srefl _ _ _ (by decide) (by decide) hJ.size⟩ | exact ⟨_, rfl, rfl, hJ, srefl _ _ _ (by decide) (by decide) hJ.size⟩
  · refine RStepP.of rfl fun T W hag hJ hd hpr => ?_   -- 23: 28 := Op.load 4 (Operand.tmp 27)
    have d27 : T.getD 27 undef = _ := hd ⟨22, .data⟩ (by simp) rfl _ rfl
    have fct0 := (HH.out.below hJ).c4
    clear hag hd hpr
    go_simp
    first | exact ⟨_, rfl, rfl, srefl _ _ _ (by decide) (by decide) hJ.size⟩ | exact ⟨_, rfl, rfl, hJ, srefl _ _ _ (by decide) (by decide) hJ.size⟩
  · refine RStepP.of rfl fun T W hag hJ hd hpr => ?_   -- 24: 29 := Op.move (Operand.tmp 0)
    have e0 : T.getD 0 undef = _ := (agree_at hag 0 (by kernel_rfl)).trans rfl
    clear hag hd hpr
    go_simp
    first | exact ⟨_, rfl, rfl, srefl _ _ _ (by decide) (by decide) hJ.size⟩ | exact ⟨_, rfl, rfl, hJ, srefl _ _ _ (by decide) (by decide) hJ.size⟩
  · refine RStepP.of rfl fun T W hag hJ hd hpr => ?_   -- 25: 30 := Op.nilCheck (Operand.tmp 29)
    have d29 : T.getD 29 undef = _ := hd ⟨24, .data⟩ (by simp) rfl _ rfl
    clear hag hd hpr
    go_simp
    first | exact ⟨_, rfl, rfl, srefl _ _ _ (by decide) (by decide) hJ.size⟩ | exact ⟨_, rfl, rfl, hJ, srefl _ _ _ (by decide) (by decide) hJ.size⟩
  · refine RStepP.of rfl fun T W hag hJ hd hpr => ?_   -- 26: 31 := Op.fieldAddr 63 (Operand.tmp 30) 5
    have d30 : T.getD 30 undef = _ := hd ⟨25, .data⟩ (by simp) rfl _ rfl
    clear hag hd hpr
    go_simp
    first | exact ⟨_, rfl, rfl, srefl _ _ _ (by decide) (by decide) hJ.size⟩ | exact ⟨_, rfl, rfl, hJ, srefl _ _ _ (by decide) (by decide) hJ.size⟩
  · refine RStepP.of rfl fun T W hag hJ hd hpr => ?_   -- 27: 32 := Op.load 3 (Operand.tmp 31)
    have d31 : T.getD 31 undef = _ := hd ⟨26, .data⟩ (by simp) rfl _ rfl
    have fct0 := (HH.out.below hJ).c5
    clear hag hd hpr
    go_simp
    first | exact ⟨_, rfl, rfl, srefl _ _ _ (by decide) (by decide) hJ.size⟩ | exact ⟨_, rfl, rfl, hJ, srefl _ _ _ (by decide) (by decide) hJ.size⟩
  · refine RStepP.of rfl fun T W hag hJ hd hpr => ?_   -- 28: 33 := Op.build 63 #[(0, Operand.tmp 9), (1, Operand.tmp 14), (2, Operand.tmp
    have x9 : VY w hp L m 4 (T.getD 9 undef) W := hd ⟨4, .data⟩ (by simp) rfl _ rfl
    have x14 : VY w hp L m 9 (T.getD 14 undef) W := hd ⟨9, .data⟩ (by simp) rfl _ rfl
    have x19 : VY w hp L m 14 (T.getD 19 undef) W := hd ⟨14, .data⟩ (by simp) rfl _ rfl
    have x24 : VY w hp L m 19 (T.getD 24 undef) W := hd ⟨19, .data⟩ (by simp) rfl _ rfl
    have d28 : T.getD 28 undef = .bool m.stops := hd ⟨23, .data⟩ (by simp) rfl _ rfl
    have d32 : T.getD 32 undef = .int .i64 m.left := hd ⟨27, .data⟩ (by simp) rfl _ rfl
    have hds : Dis w m (T.getD 9 undef) (T.getD 14 undef) W := hpr ⟨4, .data⟩ (by simp) ⟨9, .data⟩ (by simp) rfl rfl (by simp) _ _ rfl rfl rfl rfl
    obtain ⟨v9, d9⟩ : ∃ v, T.getD 9 undef = v := ⟨_, rfl⟩
    obtain ⟨v14, d14⟩ : ∃ v, T.getD 14 undef = v := ⟨_, rfl⟩
    obtain ⟨v19, d19⟩ : ∃ v, T.getD 19 undef = v := ⟨_, rfl⟩
    obtain ⟨v24, d24⟩ : ∃ v, T.getD 24 undef = v := ⟨_, rfl⟩
    rw [d9] at x9 hds
    rw [d14] at x14 hds
    rw [d19] at x19
    rw [d24] at x24
    obtain ⟨lo, hi, _, ⟨_, Tn, hn⟩⟩ := x9
    obtain ⟨lo', hi', _, ⟨_, Ts, hs⟩⟩ := x14
    obtain ⟨A1, q1, rfl, _, _⟩ := hn.val
    obtain ⟨A2, q2, rfl, _, _⟩ := hs.val
    have x19' : RowAt W _ _ _ v19 _ _ := x19
    have x24' : RowAt W _ _ _ v24 _ _ := x24
    obtain ⟨A3, q3, rfl, _, _⟩ := x19'.val
    obtain ⟨A4, q4, rfl, _, _⟩ := x24'.val
    have HM := Lib.hid (And.intro hds (And.intro x19' x24'))
    have d9' := d9
    have d14' := d14
    have d19' := d19
    have d24' := d24
    have d28' := d28
    have d32' := d32
    rw [Array.getD_eq_getD_getElem?] at d9' d14' d19' d24' d28' d32'
    clear hag hd hpr hn hs x19 x24 x19' x24' hds
    go_simp
    exact ⟨_, rfl, ⟨_, _, _, _, rfl, HM.out.1, HM.out.2.1, HM.out.2.2⟩, srefl _ _ _ (by decide) (by decide) hJ.size⟩
  · refine RStepP.of rfl fun T W hag hJ hd hpr => ?_   -- 29: 34 := Op.box 63 (Operand.tmp 33)
    obtain ⟨v9, v14, v19, v24, (d33 : T.getD 33 undef = _), hds, hx, hy⟩ := hd ⟨28, .data⟩ (by simp) rfl _ rfl
    have HM := Lib.hid (And.intro hds (And.intro hx hy))
    clear hag hd hpr hds hx hy
    go_simp
    have hg := World.grownBy_alloc W (.cells #[v9, v14, v19, v24, .bool m.stops, .int .i64 m.left] 63) none
    refine ⟨_, rfl, ⟨W.heap.size, v9, v14, v19, v24, rfl, hJ.size, heap_alloc_new W _, HM.out.1.on hg, HM.out.2.1.keep (fun k hk _ => hg.block k hk (by simp)), HM.out.2.2.keep (fun k hk _ => hg.block k hk (by simp))⟩, hJ.alloc hJ.size _, hg, (fun h => by omega), (fun h => by omega), hJ.size⟩
  · refine RLastP.of rfl fun T W hag hJ hd hpr => ?_   -- 30: 2 := Op.assign (Operand.tmp 34)
    obtain ⟨q, v9, v14, v19, v24, (d34 : T.getD 34 undef = _), hq, hqc, hds, hx, hy⟩ := hd 29 _ (by simp) rfl
    have HM := Lib.hid (And.intro hq (And.intro hqc (And.intro hds (And.intro hx hy))))
    have HJ := Lib.hid hJ
    have HAG := Lib.hid hag
    clear hag hd hpr hq hqc hds hx hy
    go_simp
    obtain ⟨f, hf, hT⟩ := agree_fn HAG.out
    have h34 : f 34 = _ := (hf 34).trans d34
    clear HAG hf d34
    rw [hT]
    clear hT
    simp only [List.filterMap_cons, List.filterMap_nil, List.foldl_cons, List.foldl_nil, List.setIfInBounds_toArray, List.set_cons_succ, List.set_cons_zero]
    go_wp2
    go_ret
    obtain ⟨hq, hqc, ⟨lo, hi, lo', hi', g1, g2, g3, g4, g5⟩, hx, hy⟩ := HM.out
    obtain ⟨F, hF, hB⟩ := dev_of_parts hq hqc g1 g2 g3 g4 g5 hx hy HH.out.ok
    exact ⟨⟨q, F, rfl, hF, hB⟩, HJ.out⟩
end Go.Proofs.Ytocmjbfbjiinhaa
