/- Arguments that are deeds of a cache, or ints, opened to cells; two caches side by side; Blocks and Writes that are compared. -/
import Derived.Test.YtbcnjilhibkcnaaKv
import Derived.Deep.Slices
import Derived.Deep.Fields
import Derived.ChangeSame
import Derived.ProofKit
import Derived.OpenShut
import Derived.Carry
import Derived.Laws.BitsLemmas
namespace Go.Proofs.Ytbcnjilhibkcnaa
open Go.ChangeShapes Go.WideShapes Go.ChangeAt Go.RowKit Go.Deep
set_option linter.unusedVariables false
theorem list_of' {α : Type} {p : Nat → α → Prop} (n : Nat) (h : ∀ k, k < n → ∃ x, p k x) : ∃ l : List α, l.length = n ∧ ∀ i x, l[i]? = some x → p i x := by
  induction n with
  | zero => exact ⟨[], rfl, fun i x hi => by cases hi⟩
  | succ n ih =>
    obtain ⟨l, h1, h2⟩ := ih (fun k hk => h k (by omega))
    obtain ⟨x, hx⟩ := h n (by omega)
    refine ⟨l ++ [x], by simp [h1], fun i y hi => ?_⟩
    by_cases hin : i < n
    · rw [List.getElem?_append_left (by omega)] at hi; exact h2 i y hi
    · have hlt := (List.getElem?_eq_some_iff.1 hi).1
      simp at hlt
      obtain rfl : i = n := by omega
      rw [List.getElem?_append_right (by omega), h1, Nat.sub_self] at hi
      injection hi with hi
      subst hi
      exact hx
/-- A deed as an argument has it. -/
structure Cd where
  (k t c : Int) (d : Bool)
structure CdAt (w : World) (p : Addr) (d : Cd) : Prop where
  c0 : w.cell? p = some (.int .i64 d.k)
  c1 : w.cell? ⟨p.block, p.off + 1, none⟩ = some (.int .i64 d.t)
  c2 : w.cell? ⟨p.block, p.off + 2, none⟩ = some (.int .i64 d.c)
  c3 : w.cell? ⟨p.block, p.off + 3, none⟩ = some (.bool d.d)
structure CdOk (d : Cd) : Prop where
  k : i64 d.k
  t : i64 d.t
  c : i64 d.c
def Cds (w : World) (A : Option Addr) (l : List Cd) : Prop := ∀ i d, l[i]? = some d → ∃ a, A = some a ∧ CdAt w (a.add (i * 4)) d
def CdsOk (l : List Cd) : Prop := ∀ d ∈ l, CdOk d
theorem CdAt.keep {w w' : World} {p : Addr} {d : Cd} (h : CdAt w p d) (hb : Below w.heap.size w w') : CdAt w' p d :=
  have k : ∀ {q : Addr} {v : Value}, w.cell? q = some v → w'.cell? q = some v := fun {q v} hq => by rw [hb.cell (World.block_lt_of_cell? w q hq)]; exact hq
  ⟨k h.c0, k h.c1, k h.c2, k h.c3⟩
theorem Cds.keep {w w' : World} {A : Option Addr} {l : List Cd} (h : Cds w A l) (hb : Below w.heap.size w w') : Cds w' A l := fun i d hi =>
  let ⟨a, e, hs⟩ := h i d hi; ⟨a, e, hs.keep hb⟩
/-- Ints lie behind a slice. -/
def Nts (w : World) (A : Option Addr) (xs : List Int) : Prop := ∀ i x, xs[i]? = some x → ∃ a, A = some a ∧ w.cell? (a.add i) = some (.int .i64 x)
theorem Nts.keep {w w' : World} {A : Option Addr} {xs : List Int} (h : Nts w A xs) (hb : Below w.heap.size w w') : Nts w' A xs := fun i x hi =>
  let ⟨a, e, hs⟩ := h i x hi; ⟨a, e, keepC hb hs⟩
def AllI (xs : List Int) : Prop := ∀ x ∈ xs, i64 x
section
variable {H : Type} {enc : TypeId × Value → H} {w : World} {base : Nat} {spare : Nat → Bool} {held : Bool}
theorem cells_cd : Try.prog.cellsOf 29 = 4 := by kernel_rfl
theorem cells_int3 : Try.prog.cellsOf 3 = 1 := by kernel_rfl
theorem cells_bool4 : Try.prog.cellsOf 4 = 1 := by kernel_rfl
theorem open_nts {fuel : Nat} {cs : List Value} {x : DataW H × List MemPlace} (h : DataW.trod enc Try.prog w base spare held fuel 46 cs = some x) :
    ∃ (A : Option Addr) (bs : List Int) (d : Nat), cs = [.slice A bs.length d] ∧ bs.length ≤ d ∧ d ≤ 9223372036854775807 ∧ Nts w A bs ∧ AllI bs := by
  rcases open_ints Try.underlying46 Try.underlying3 cells_int3 h with ⟨rfl, _⟩ | ⟨a, len, cap, zs, rfl, _, hl, hm, hz, _, hcell, hwf⟩
  · exact ⟨none, [], 0, rfl, Nat.le_refl _, by omega, (fun i s hi => by cases hi), (fun s hs => by cases hs)⟩
  · have hzl : len ≤ zs.length := by rw [hz]; split <;> omega
    have e : (zs.take len).length = len := List.length_take_of_le hzl
    refine ⟨some a, zs.take len, cap, by rw [e], by rw [e]; exact hl, by simp only [maxLen] at hm; omega, fun i s hi => ⟨a, rfl, ?_⟩, fun s hs => ?_⟩
    · rw [List.getElem?_take] at hi
      split at hi
      · have hlt : i < zs.length := (List.getElem?_eq_some_iff.1 hi).1
        rw [hcell i hlt, List.getD, hi]; rfl
      · cases hi
    · have := bounds_i64 (hwf s (List.mem_of_mem_take hs)); constructor <;> omega
theorem open_cd {fuel : Nat} {cs : List Value} {x : DataW H × List MemPlace} (h : DataW.trod enc Try.prog w base spare held fuel 29 cs = some x) :
    ∃ d : Cd, cs = [.int .i64 d.k, .int .i64 d.t, .int .i64 d.c, .bool d.d] ∧ CdOk d := by
  obtain ⟨xs, n, _, hx, hlen, hxl, hf⟩ := DataW.trod_struct Try.underlying29 h
  rw [cells_cd] at hlen
  match cs, hlen with
  | [c0, c1, c2, c3], _ =>
    have e0 : DataW.trod enc Try.prog w base spare held n 3 (([c0, c1, c2, c3].drop 0).take (Try.prog.cellsOf 3)) = xs[0]? := hf 0 _ rfl
    have e1 : DataW.trod enc Try.prog w base spare held n 3 (([c0, c1, c2, c3].drop 1).take (Try.prog.cellsOf 3)) = xs[1]? := hf 1 _ rfl
    have e2 : DataW.trod enc Try.prog w base spare held n 3 (([c0, c1, c2, c3].drop 2).take (Try.prog.cellsOf 3)) = xs[2]? := hf 2 _ rfl
    have e3 : DataW.trod enc Try.prog w base spare held n 4 (([c0, c1, c2, c3].drop 3).take (Try.prog.cellsOf 4)) = xs[3]? := hf 3 _ rfl
    rw [cells_int3] at e0 e1 e2
    rw [cells_bool4] at e3
    have hs : ∀ i, i < 4 → ∃ y, xs[i]? = some y := fun i hi => ⟨_, List.getElem?_eq_getElem (by rw [hxl]; exact hi)⟩
    obtain ⟨y0, h0⟩ := hs 0 (by omega)
    obtain ⟨y1, h1⟩ := hs 1 (by omega)
    obtain ⟨y2, h2⟩ := hs 2 (by omega)
    obtain ⟨y3, h3⟩ := hs 3 (by omega)
    rw [h0] at e0
    rw [h1] at e1
    rw [h2] at e2
    rw [h3] at e3
    obtain ⟨k, ek, _, wk⟩ := DataW.trod_int Try.underlying3 e0
    obtain ⟨r, er, _, wr⟩ := DataW.trod_int Try.underlying3 e1
    obtain ⟨i, ei, _, wi⟩ := DataW.trod_int Try.underlying3 e2
    obtain ⟨b, eb, _⟩ := DataW.trod_bool Try.underlying4 e3
    injection ek with ek
    injection er with er
    injection ei with ei
    injection eb with eb
    exact ⟨⟨k, r, i, b⟩, by rw [ek, er, ei, eb], ⟨by have := bounds_i64 wk; constructor <;> (show _; simp only; omega), by have := bounds_i64 wr; constructor <;> (show _; simp only; omega), by have := bounds_i64 wi; constructor <;> (show _; simp only; omega)⟩⟩
theorem open_cds {fuel : Nat} {cs : List Value} {x : DataW H × List MemPlace} (h : DataW.trod enc Try.prog w base spare held fuel 22 cs = some x) :
    ∃ (A : Option Addr) (l : List Cd) (d : Nat), cs = [.slice A l.length d] ∧ l.length ≤ d ∧ d ≤ 9223372036854775807 ∧ Cds w A l ∧ CdsOk l := by
  rcases open_slice Try.underlying22 h with ⟨rfl, _⟩ | ⟨a, len, cap, m, n, D, Pl, rfl, _, hl, hm, hmm, _, hi⟩
  · exact ⟨none, [], 0, rfl, Nat.le_refl _, by omega, (fun i s hi => by cases hi), (fun s hs => by cases hs)⟩
  · have hml : len ≤ m := by rw [hmm]; split <;> omega
    obtain ⟨l, h1, h2⟩ := list_of' (p := fun i d => CdAt w (a.add (i * 4)) d ∧ CdOk d) len (fun k hk => by
      obtain ⟨cs', hc, ht⟩ := hi k (by omega)
      rw [cells_cd] at hc
      obtain ⟨d, rfl, hd⟩ := open_cd ht
      obtain ⟨_, _, hat⟩ := World.cells?_some hc
      have at_ : ∀ j u, j < 4 → [Value.int .i64 d.k, .int .i64 d.t, .int .i64 d.c, .bool d.d][j]? = some u → w.cell? ((a.add (k * 4)).add j) = some u := fun j u hj hu => by rw [hat j hj, hu]
      have c0 := at_ 0 _ (by omega) rfl
      have c1 := at_ 1 _ (by omega) rfl
      have c2 := at_ 2 _ (by omega) rfl
      have c3 := at_ 3 _ (by omega) rfl
      rw [add_sum _ 0] at c1
      rw [add_sum _ 1] at c2
      rw [add_sum _ 2] at c3
      exact ⟨d, ⟨c0, c1, c2, c3⟩, hd⟩)
    refine ⟨some a, l, cap, by rw [h1], by omega, by simp only [maxLen] at hm; omega, fun i d hid => ⟨a, rfl, (h2 i d hid).1⟩, fun d hd => ?_⟩
    obtain ⟨i, hi⟩ := List.mem_iff_getElem?.1 hd
    exact (h2 i d hi).2
end
/-! Two caches. -/
structure S2 (B : Nat) (w : World) (g m : Nat) (L : List Ent) (R : Nat → Prop) (g' m' : Nat) (L' : List Ent) (R' : Nat → Prop) : Prop where
  a : St B w g m L R
  b : St B w g' m' L' R'
  dis : ∀ k, R k → ¬ R' k
theorem S2.below {B : Nat} {w w' : World} {g m g' m' : Nat} {L L' : List Ent} {R R' : Nat → Prop} (h : S2 B w g m L R g' m' L' R') (hb : Below w.heap.size w w') : S2 B w' g m L R g' m' L' R' := ⟨h.a.below hb, h.b.below hb, h.dis⟩
theorem S2.swap {B : Nat} {w : World} {g m g' m' : Nat} {L L' : List Ent} {R R' : Nat → Prop} (h : S2 B w g m L R g' m' L' R') : S2 B w g' m' L' R' g m L R := ⟨h.b, h.a, fun k hk hn => h.dis k hn hk⟩
theorem S2.fst {B : Nat} {w w' : World} {g m g' m' : Nat} {L L' L2 : List Ent} {R R' R2 : Nat → Prop} (h : S2 B w g m L R g' m' L' R') (hs : St B w' g m L2 R2) (hl : Left R R2 w w') : S2 B w' g m L2 R2 g' m' L' R' :=
  ⟨hs, h.b.kept hl.1 (fun k hk hn => h.dis k hn hk), fun k hk hn => hl.2 k (h.b.hi k hn) (fun hr => h.dis k hr hn) hk⟩
theorem S2.snd {B : Nat} {w w' : World} {g m g' m' : Nat} {L L' L2 : List Ent} {R R' R2 : Nat → Prop} (h : S2 B w g m L R g' m' L' R') (hs : St B w' g' m' L2 R2) (hl : Left R' R2 w w') : S2 B w' g m L R g' m' L2 R2 := (h.swap.fst hs hl).swap
theorem zW_ok8 : zW.Ok := ⟨by constructor <;> (unfold zW; simp only; omega), by constructor <;> (unfold zW; simp only; omega), zBs_len, zBs_allB⟩
theorem outM_ok {L : List Ent} (h : ∀ x ∈ L, x.1.Ok) (m : Nat) (t : Int) : (outW (outM m L t)).Ok := by
  unfold outM
  split
  · rename_i hc
    have hne : L ≠ [] := fun e => by rw [e] at hc; simp at hc
    have hm : L.getLastD zE ∈ L := by rw [List.getLastD_eq_getLast?, List.getLast?_eq_some_getLast hne]; exact List.getLast_mem hne
    unfold outW; split
    · exact h _ hm
    · exact zW_ok8
  · exact zW_ok8
theorem ansM_cases {L : List Ent} (h : ∀ x ∈ L, x.1.Ok) (t : Int) : ∃ k bs b, ansM L t = ansB k bs b ∧ bs.length = 56 ∧ AllB bs := by
  unfold ansM
  split
  · exact ⟨_, _, _, rfl, zBs_len, zBs_allB⟩
  · rename_i a hp
    obtain ⟨x, hx, _⟩ := posL_is hp
    rw [getD_of hx]
    have := h x (List.mem_of_getElem? hx)
    exact ⟨_, _, _, rfl, this.len, this.b⟩
section
variable {ops : Array Oper} {rest : List Oper} {o : Oper} {a : Act} {w : World} {Q : Exit → Act → World → Prop}
theorem wpList_loadB8 (hw : Region.wanted o (yielded ops a.tmps) = true) (x : Operand) (ho : o.op = .load 32 x) (g : Nat) (hx : a.eval x = .pointer (some ⟨g, 0, none⟩)) (k : Int) (bs : List Int) (h56 : bs.length = 56) (hg : w.heap[g]? = some (.cells (blkA k bs) 32 (0, 0)))
    (h : wpList Try.prog ops Q rest (a.put o.dst (.agg (blkA k bs))) w) : wpList Try.prog ops Q (o :: rest) a w :=
  BigFrame.wpList_want hw fun _ hK => wp_load_row 32 x ho g hx _ _ _ _ hg Try.underlying32 rfl (by rw [blkA_size h56]; kernel_rfl) (hK _ _ h)
theorem guardB8 : Try.prog.eqGuardType Try.prog.depth 32 = false := by kernel_rfl
theorem wpList_neqB8 (hw : Region.wanted o (yielded ops a.tmps) = true) (x y : Operand) (t : TypeId) (ho : o.op = .binOp .neq 32 x y t) (k : Int) (bs : List Int) (hx : a.eval x = .agg (blkA k bs)) (hy : a.eval y = .agg (blkA k bs)) (hb : bs.length = 56) (hB : AllB bs)
    (h : wpList Try.prog ops Q rest (a.put o.dst (.bool false)) w) : wpList Try.prog ops Q (o :: rest) a w :=
  BigFrame.wpList_want hw fun _ hK => by
    have hg := run_eqGuard_agg (P := Try.prog) w .neq 32 x y (blkA k bs) (blkA k bs) guardB8
    have hr := run_neq_struct (P := Try.prog) w 32 (blkA k bs) (blkA k bs)
    rw [eqlB 9997 k k bs bs hb hb hB hB w, decide_eq_true ⟨rfl, rfl⟩] at hr
    unfold Oper.wp execOp
    simp only [ho, hx, hy, Sem.run_bind, hg, hr, Result.andThen_ok]
    exact hK _ _ h
theorem wpList_neqW8 (hw : Region.wanted o (yielded ops a.tmps) = true) (x y : Operand) (t : TypeId) (ho : o.op = .binOp .neq 36 x y t) (u : Wr) (hx : a.eval x = .agg (wrA u)) (hy : a.eval y = .agg (wrA u)) (hu : u.Ok)
    (h : wpList Try.prog ops Q rest (a.put o.dst (.bool false)) w) : wpList Try.prog ops Q (o :: rest) a w :=
  BigFrame.wpList_want hw fun _ hK => wp_neqW x y t ho u u hx hy hu.len hu.len hu.b hu.b (by rw [decide_eq_true rfl]; exact hK _ _ h)
end
theorem and1_8 (n : Int) : ∃ r : Nat, r < 2 ∧ bits .and .i64 n 1 = (r : Int) := by
  have h1 : (BitVec.ofInt 64 1).toNat = 2 ^ 1 - 1 := by decide
  have key : (BitVec.ofInt 64 n &&& BitVec.ofInt 64 1).toNat = (n % ((2 ^ 64 : Nat) : Int)).toNat % 2 ^ 1 := by
    rw [BitVec.toNat_and, BitVec.toNat_ofInt, h1, Nat.and_two_pow_sub_one_eq_mod]
  refine ⟨(n % 2).toNat, by omega, ?_⟩
  show IntKind.i64.wrap ((BitVec.ofInt 64 n &&& BitVec.ofInt 64 1).toNat : Nat) = _
  rw [key, IntKind.wrap_i64]
  omega
end Go.Proofs.Ytbcnjilhibkcnaa
