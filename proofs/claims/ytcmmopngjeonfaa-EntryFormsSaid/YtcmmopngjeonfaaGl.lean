/- Contract: the reference's PutNode. -/
import Derived.Test.YtcmmopngjeonfaaGk
import Derived.Test.YtcmmopngjeonfaaAs
namespace Go.Proofs.Ytcmmopngjeonfaa
open Go.ChangeShapes Go.WideShapes Go.ChangeAt Go.RowKit
set_option linter.unusedVariables false
theorem high_int (x : Int) (n : Nat) (w : World) (hv : 0 ≤ x ∧ x < 18446744073709551616) (hn : n ≤ 8) :
    Calls Try.prog 19 #[.int .u64 x, .int .i64 n] w fun e w' => ∃ u, e = .returned u ∧ FullAt w' w.heap.size u (be x.toNat n) ∧ Below w.heap.size w w' := by
  have h := high_full x.toNat n w (by omega) hn
  rwa [show ((x.toNat : Nat) : Int) = x by omega] at h
theorem wp_storeB {o : Oper} {a : Act} {w : World} {K : Act → World → Prop} {Q : Exit → Act → World → Prop} (x y : Operand) (ho : o.op = .store 29 x y) (g : Nat) (hx : a.eval x = .pointer (some ⟨g, 0, none⟩)) (k j : Int) (bs cs : List Int) (hy : a.eval y = .agg (blkA k bs)) (h56 : bs.length = 56) (h56' : cs.length = 56) (hg : w.heap[g]? = some (.cells (blkA j cs) 29 (0, 0)))
    (h : K (a.put o.dst undef) (w.setRow g (blkA k bs))) : o.wp Try.prog a w K Q :=
  wp_store_row 29 x y ho g _ hx hy _ _ hg (by rw [blkA_size h56]; exact size24b) (by rw [blkA_size h56, blkA_size h56']) (blkA_one _ _) h
theorem grownBy_setRow (w : World) (g : Nat) (C : Array Value) : w.grownBy (w.setRow g C) (some g) :=
  ⟨rfl, rfl, rfl, by simp, fun k _ hk => setRow_other w g k C (fun e => hk (by rw [e]))⟩
section
variable {w W W' : World} {p : Nat} {n : Nd}
end
def VPN (p : Nat) (n : Nd) (i : Nat) (v : Value) (W : World) : Prop :=
  match i with
  | 0 => v = .pointer (some ⟨p, 0, none⟩)
  | 1 => v = .int .u32 n.g
  | 2 => v = .int .u64 n.g
  | 4 => v = .pointer (some ⟨p, 1, none⟩)
  | 5 => v = .int .i64 n.l
  | 6 => v = .int .u64 n.l
  | 9 => v = .pointer (some ⟨p, 2, none⟩)
  | 10 => v = .int .i64 n.s
  | 11 => v = .int .u64 n.s
  | 3 => FullAt W (p + 1 + 1) v (be n.g.toNat 4)
  | 7 => FullAt W (p + 1 + 1) v (be n.l.toNat 2)
  | 8 => W.ownsRow (p + 1 + 1) 5 1 v 6 (Bs (be n.g.toNat 4 ++ be n.l.toNat 2))
  | 12 => FullAt W (p + 1 + 1) v (be n.s.toNat 4)
  | 13 => W.ownsRow (p + 1 + 1) 5 1 v 10 (Bs (headN n))
  | _ => True
def SPN (i : Nat) (w w' : World) : Prop := if i = 13 then KeepB 6 10 w w' else w.grownBy w' none
theorem VPN.on {p : Nat} {n : Nd} {i j : Nat} {v : Value} {w w' : World} (hij : i ≠ j) (h : VPN p n j v w) (hs : SPN i w w') : VPN p n j v w' := by
  unfold SPN at hs
  by_cases hi : i = 13
  · rw [if_pos hi] at hs
    unfold VPN at *
    split <;> try exact h
    · exact FullAt.keep h hs (by rw [be_length]; decide)
    · exact FullAt.keep h hs (by rw [be_length]; decide)
    · exact own_keep h hs (by decide)
    · exact FullAt.keep h hs (by rw [be_length]; decide)
    · exact absurd hi hij
    · trivial
  · rw [if_neg hi] at hs
    unfold VPN at *
    split <;> try exact h
    · exact FullAt.grown h hs
    · exact FullAt.grown h hs
    · exact World.ownsRow.kept h hs (by cases v.ownBlock <;> simp)
    · exact FullAt.grown h hs
    · exact World.ownsRow.kept h hs (by cases v.ownBlock <;> simp)
    · trivial
section
variable {w W W' : World} {p : Nat} {n : Nd} {k : Int} {v6 : Value} {b7 b12 : Bool}
end
def VPO (p : Nat) (n : Nd) (k : Int) (v6 : Value) (i : Nat) (v : Value) (W : World) : Prop :=
  match i with
  | 0 => v = .int .i64 k
  | 1 => v = v6
  | 2 | 8 => v = .pointer (some ⟨p, 8, none⟩)
  | 3 | 9 => v = .string (strOfNums n.t)
  | 4 => v = .int .i64 n.t.length
  | 5 => v = .int .u8 n.t.length
  | 11 => v = .agg (blkA k (pad (bytesN n)))
  | 6 => FullAt W (p + 1 + 1) v [(n.t.length : Int)]
  | 7 => W.ownsRow (p + 1 + 1) 5 1 v 21 (Bs (frontN n))
  | 10 => W.ownsRow (p + 1 + 1) 5 1 v (21 + n.t.length) (Bs (bytesN n))
  | _ => True
def SPO (p : Nat) (n : Nd) (i : Nat) (w w' : World) : Prop := if i = 7 then KeepB 20 21 w w' else if i = 10 then KeepB 21 (21 + n.t.length) w w' else if i = 12 then w.grownBy w' (some (p + 1)) else w.grownBy w' none
theorem FullAt.kept {w w' : World} {base : Nat} {v : Value} {xs : List Int} {r : Nat} (h : FullAt w base v xs) (hg : w.grownBy w' (some r)) (hr : r < base) : FullAt w' base v xs := by
  obtain ⟨q, C, rfl, hb, hq, hc⟩ := h
  exact ⟨q, C, rfl, hb, by rw [hg.block q (room_lt hq) (fun e => by injection e with e; omega)]; exact hq, hc⟩
theorem own_kept {w w' : World} {base m : Nat} {t : TypeId} {v : Value} {xs : List Value} {r : Nat} (h : w.ownsRow base t 1 v m xs) (hg : w.grownBy w' (some r)) (hr : r < base) : w'.ownsRow base t 1 v m xs :=
  World.ownsRow.kept h hg (Or.inr fun e => by have := (h.lt _ e).1; omega)
theorem VPO.on {p : Nat} {n : Nd} {k : Int} {v6 : Value} {i j : Nat} {v : Value} {w w' : World} (hij : i ≠ j) (hnot : ¬ (i = 7 ∧ j = 10)) (h : VPO p n k v6 j v w) (hs : SPO p n i w w') : VPO p n k v6 j v w' := by
  unfold SPO at hs
  by_cases hi : i = 7
  · rw [if_pos hi] at hs
    unfold VPO at *
    split <;> try exact h
    · exact FullAt.keep h hs (show 1 < 21 by omega)
    · exact absurd hi hij
    · exact absurd ⟨hi, rfl⟩ hnot
    · trivial
  · rw [if_neg hi] at hs
    by_cases hi2 : i = 10
    · rw [if_pos hi2] at hs
      unfold VPO at *
      split <;> try exact h
      · exact FullAt.keep h hs (show 1 < 21 + n.t.length by omega)
      · exact own_keep h hs (by decide)
      · exact absurd hi2 hij
      · trivial
    · rw [if_neg hi2] at hs
      by_cases hi3 : i = 12
      · rw [if_pos hi3] at hs
        unfold VPO at *
        split <;> try exact h
        · exact FullAt.kept h hs (by omega)
        · exact own_kept h hs (by omega)
        · exact own_kept h hs (by omega)
        · trivial
      · rw [if_neg hi3] at hs
        unfold VPO at *
        split <;> try exact h
        · exact FullAt.grown h hs
        · exact World.ownsRow.kept h hs (by cases v.ownBlock <;> simp)
        · exact World.ownsRow.kept h hs (by cases v.ownBlock <;> simp)
        · trivial
theorem nd_at (n : Nd) {j : Nat} (h : j < 4) : (ndA n)[3 + j]? = some (.int .i64 (n.ps.getD j 0)) := by
  match j, h with
  | 0, _ => rfl
  | 1, _ => rfl
  | 2, _ => rfl
  | 3, _ => rfl
end Go.Proofs.Ytcmmopngjeonfaa
