/- A cache in a law: its blocks apart from others; contract: begun. -/
import Derived.Test.YtbcnjilhibkcnaaKq
namespace Go.Proofs.Ytbcnjilhibkcnaa
open Go.ChangeShapes Go.WideShapes Go.ChangeAt Go.RowKit
set_option linter.unusedVariables false
structure St (B : Nat) (w : World) (g m : Nat) (L : List Ent) (R : Nat → Prop) : Prop where
  c : Cached w g m L R
  hi : ∀ k, R k → k < w.heap.size
  lo : ∀ k, R k → B ≤ k
theorem St.below {B : Nat} {w w' : World} {g m : Nat} {L : List Ent} {R : Nat → Prop} (h : St B w g m L R) (hb : Below w.heap.size w w') : St B w' g m L R :=
  ⟨h.c.below hb, fun k hk => Nat.lt_of_lt_of_le (h.hi k hk) hb.size, h.lo⟩
theorem St.kept {B : Nat} {w w' : World} {g m : Nat} {L : List Ent} {R R' : Nat → Prop} (h : St B w g m L R) (hs : Stp R' w w') (hR : ∀ k, R k → ¬ R' k) : St B w' g m L R :=
  ⟨h.c.kept hs hR, fun k hk => Nat.lt_of_lt_of_le (h.hi k hk) hs.size, h.lo⟩
theorem St.next {B : Nat} {w w' : World} {g m : Nat} {L : List Ent} {R : Nat → Prop} (hhi : ∀ k, R k → k < w.heap.size) (hlo : ∀ k, R k → B ≤ k) (hB : B ≤ w.heap.size) (h : Cached w' g m L (New R w w')) (hs : Stp R w w') : St B w' g m L (New R w w') :=
  ⟨h, fun k hk => hk.elim (fun hk => Nat.lt_of_lt_of_le (hhi k hk) hs.size) (fun hk => hk.2), fun k hk => hk.elim (hlo k) (fun hk => Nat.le_trans hB hk.1)⟩
theorem not_new {R : Nat → Prop} {w w' : World} {k : Nat} (h : ¬ R k) (hk : k < w.heap.size) : ¬ New R w w' k := fun e => e.elim h fun e => by omega
/-- What a step of a cache leaves of all else. -/
def Left (R R' : Nat → Prop) (w w' : World) : Prop := Stp R w w' ∧ ∀ k, k < w.heap.size → ¬ R k → ¬ R' k
theorem Left.heap {R R' : Nat → Prop} {w w' : World} (h : Left R R' w w') {k : Nat} {o : Obj} (hk : w.heap[k]? = some o) (hn : ¬ R k) : w'.heap[k]? = some o ∧ ¬ R' k := ⟨h.1.heap hk hn, h.2 k (room_lt hk) hn⟩
theorem new_s (n : Int) (hn : i64 n) (w : World) (B : Nat) (hB : B ≤ w.heap.size) :
    Calls Try.prog 8 #[.int .i64 n] w fun e w' => ∃ g R, e = .returned (.pointer (some ⟨g, 0, none⟩)) ∧ St B w' g (moreOf n) [] R ∧ (∀ k, R k → w.heap.size ≤ k) ∧ Below w.heap.size w w' :=
  (new_m n hn w).mono fun e w' ⟨h1, h2, h3⟩ => ⟨_, _, h1, ⟨h2, fun k hk => hk.2, fun k hk => Nat.le_trans hB hk.1⟩, fun k hk => hk.1, h3⟩
theorem put_s {B : Nat} {w : World} {g m : Nat} {L : List Ent} {R : Nat → Prop} (h : St B w g m L R) (hB : B ≤ w.heap.size) (x : Wr) (hx : x.Ok) (d : Bool) :
    Calls Try.prog 16 #[.pointer (some ⟨g, 0, none⟩), .int .i64 x.t, .agg (blkA x.k x.bs), .bool d] w fun e w' => ∃ R', e = .returned (toldE (outM m L x.t)) ∧ St B w' g m (putM m L x d) R' ∧ Left R R' w w' :=
  (put_m h.c h.hi x hx d).mono fun e w' ⟨h1, h2, h3⟩ => ⟨_, h1, St.next h.hi h.lo hB h2 h3, h3, fun k hk hn => not_new hn hk⟩
theorem get_s {B : Nat} {w : World} {g m : Nat} {L : List Ent} {R : Nat → Prop} (h : St B w g m L R) (hB : B ≤ w.heap.size) (t : Int) (ht : i64 t) :
    Calls Try.prog 10 #[.pointer (some ⟨g, 0, none⟩), .int .i64 t] w fun e w' => ∃ R', e = .returned (ansM L t) ∧ St B w' g m (getM L t) R' ∧ Left R R' w w' :=
  (get_m h.c h.hi t ht).mono fun e w' ⟨h1, h2, h3⟩ => ⟨_, h1, St.next h.hi h.lo hB h2 h3, h3, fun k hk hn => not_new hn hk⟩
theorem Left.below {R R' : Nat → Prop} {B : Nat} {w0 w w' : World} (h : Left R R' w w') (h0 : Below B w0 w) (hB : B ≤ w.heap.size) (hlo : ∀ k, R k → B ≤ k) : Below B w0 w' := h.1.below h0 hB hlo
/-- A write that is told. -/
def outW (x : Ent) : Wr := if x.2 then x.1 else zW
theorem toldE_is (x : Ent) : toldE x = .tuple #[.agg (wrA (outW x)), .bool x.2] := rfl
section
variable {ops : Array Oper} {rest : List Oper} {o : Oper} {a : Act} {w : World} {Q : Exit → Act → World → Prop}
theorem wpList_loadWw (hw : Region.wanted o (yielded ops a.tmps) = true) (x : Operand) (ho : o.op = .load 36 x) (g : Nat) (hx : a.eval x = .pointer (some ⟨g, 0, none⟩)) (y : Wr) (h56 : y.bs.length = 56) (hg : w.heap[g]? = some (.cells (wrA y) 36 (0, 0)))
    (h : wpList Try.prog ops Q rest (a.put o.dst (.agg (wrA y))) w) : wpList Try.prog ops Q (o :: rest) a w :=
  BigFrame.wpList_want hw fun _ hK => wp_load_row 36 x ho g hx _ _ _ _ hg Try.underlying36 rfl (by rw [wrA_size h56]; exact sizeW) (hK _ _ h)
theorem wpList_buildWZw (hw : Region.wanted o (yielded ops a.tmps) = true) (ho : o.op = .build 36 #[])
    (h : wpList Try.prog ops Q rest (a.put o.dst (.agg (wrA zW))) w) : wpList Try.prog ops Q (o :: rest) a w :=
  BigFrame.wpList_want hw fun _ hK => by
    unfold Oper.wp execOp
    have hb := run_build (P := Try.prog) w 36 #[] _ (show Try.prog.built 36 [] = some (wrA zW) by kernel_rfl)
    simp only [ho, List.map_toArray, List.map_nil, Sem.run_bind, hb, Result.andThen_ok]
    exact hK _ _ h
theorem wpList_eqlWw (hw : Region.wanted o (yielded ops a.tmps) = true) (x y : Operand) (t : TypeId) (ho : o.op = .binOp .eql 36 x y t) (u v : Wr) (hx : a.eval x = .agg (wrA u)) (hy : a.eval y = .agg (wrA v)) (hb : u.bs.length = 56) (hc : v.bs.length = 56) (hB : AllB u.bs) (hC : AllB v.bs)
    (h : wpList Try.prog ops Q rest (a.put o.dst (.bool (decide (u = v)))) w) : wpList Try.prog ops Q (o :: rest) a w :=
  BigFrame.wpList_want hw fun _ hK => wp_eqlW x y t ho u v hx hy hb hc hB hC (hK _ _ h)
end
theorem dirty_none {w : World} {g m : Nat} {L : List Ent} {R : Nat → Prop} (h : Cached w g m L R) (hL : ∀ x ∈ L, x.2 = false) :
    Calls Try.prog 18 #[.pointer (some ⟨g, 0, none⟩)] w fun e w' => (∃ A c, e = .returned (.slice A 0 c)) ∧ Below w.heap.size w w' := by
  obtain ⟨l, h1, h2, _⟩ := h
  have hD : dirtyF l = [] := by
    unfold dirtyF
    rw [List.map_eq_nil_iff, List.filter_eq_nil_iff]
    intro f hf
    obtain ⟨i, hi⟩ := List.mem_iff_getElem?.1 hf
    have := hL _ (List.mem_of_getElem? (h2.at_ i f hi))
    simpa using this
  refine (dirty_any h1).mono ?_
  rintro e w' ⟨v, D, rfl, hp, _, hown, hb⟩
  rw [hD] at hp
  have hd := hp.eq_nil
  subst hd
  obtain ⟨A, d, rfl, _⟩ := hown.wrs (fun x hx => by cases hx)
  exact ⟨⟨A, d, rfl⟩, hb⟩
end Go.Proofs.Ytbcnjilhibkcnaa
