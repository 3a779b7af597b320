/- The laws' opening: a share, a device of one region, Make, Mount; what a change adds to the trace. -/
import Derived.Test.YtamnpblijdgdaaaNx
namespace Go.Proofs.Ytamnpblijdgdaaa
open Go.ChangeShapes Go.WideShapes Go.ChangeAt Go.RowKit
set_option linter.unusedVariables false
set_option maxRecDepth 100000
def dev1 (n g : Nat) : DM := DM.make [((2 + g + n : Nat) : Int)]
def mk1 (n g : Nat) : DM := makeM (dev1 n g) (0 : Int) n g
def stM (n g : Nat) : DM := homeM (mk1 n g) (mntV (mk1 n g) 0 n g 1 3 [])
def stW (n g : Nat) : VM := homeV (mntV (mk1 n g) 0 n g 1 3 [])
theorem may1 (n g : Nat) (hn : n ≤ 40) (hg : g ≤ 60) : mayV [((2 + g + n : Nat) : Int)] = true := by
  have h : badSize ((2 + g + n : Nat) : Int) = false := by
    unfold badSize; simp only [Bool.or_eq_false_iff, decide_eq_false_iff_not]; omega
  unfold mayV
  rw [show ([((2 + g + n : Nat) : Int)].any badSize) = false by rw [List.any_cons, h]; rfl]; rfl
structure Started (m : DM) (v : VM) (n g : Nat) : Prop where
  live : Live m v 0 n g 2 (firstS n) [] 0
  sure : AllSure m 0
  stops : m.stops = false
  done : m.done.length ≤ 2 * n + 6
  us : v.us = 0
  sq : v.sq = 0
  n_ : v.n = n
  g_ : v.g = g
  ep : v.ep = 2
  r_ : v.r = ((0 : Nat) : Int)
theorem mk1_idle {n g : Nat} (hn : n ≤ 40) (hg : g ≤ 60) : Idle (mk1 n g) 0 n g 1 (firstS n) [] 0 [] 0 ∧ (mk1 n g).stops = false := by
  obtain ⟨I1, I2, I3⟩ := new_idle (r := 0) (z := ((2 + g + n : Nat) : Int)) (n := n) (g := g) (may1 n g hn hg) rfl (by omega) (by omega)
  exact ⟨I1, I3⟩
theorem started {n g : Nat} (hn : n ≤ 40) (hg : g ≤ 60) : Started (stM n g) (stW n g) n g := by
  obtain ⟨hi, h3⟩ := mk1_idle hn hg
  have hmt := hi.mtb_now
  have htd := hmt.tied 3 (by omega) (by omega)
  have hns : (homeM (mk1 n g) (mntV (mk1 n g) 0 n g 1 3 [])).stops = false := by rw [ns_home]; exact h3
  have hlv := hmt.live htd (by omega) (ns_of hns)
  have hd1 := makeM_done (dev1 n g) (0 : Int) n g
  have hd2 := homeM_done' (mk1 n g) 0 n g 1 3 []
  have hd0 : (dev1 n g).done.length = 0 := rfl
  exact ⟨hlv.1, hlv.2, hns, by unfold stM; unfold mk1 at *; omega, rfl, rfl, rfl, rfl, rfl, rfl⟩
theorem row1 {n g : Nat} (hn : n ≤ 40) (hg : g ≤ 60) : (rowV (dev1 n g) (0 : Int) ((1 + g + n : Nat) : Int)).isSome = true := by
  have hf := make_fit (r := 0) (z := ((2 + g + n : Nat) : Int)) (N := 2 + g + n) (may1 n g hn hg) rfl (by omega)
  obtain ⟨b, hb⟩ := hf.get (i := 1 + g + n) (by omega)
  have h1 := hf.rV (1 + g + n)
  rw [hb] at h1
  rw [show (0 : Int) = ((0 : Nat) : Int) from rfl]
  show (rowV (DM.make [((2 + g + n : Nat) : Int)]) _ _).isSome = true
  rw [h1]; rfl
theorem make1 {w0 W : World} {P : Nat → Prop} {q n g : Nat} (hn : n ≤ 40) (hg : g ≤ 60) (h : DS w0 W P q (dev1 n g)) :
    Calls Try.prog 15 #[.pointer (some ⟨q, 0, none⟩), .int .i64 0, shQ 0 0 n g 3] W fun e w' => e = .returned (.bool true) ∧ DS w0 w' P q (mk1 n g) ∧ Same P W w' :=
  vmake_any h (0 : Int) (by constructor <;> omega) n g 3 (by omega) (by omega) (row1 hn hg) (by show (0 : Nat) + n ≤ 999000; omega)
theorem mount1 {w0 W : World} {P : Nat → Prop} {q n g : Nat} (hn : n ≤ 40) (hg : g ≤ 60) (h : DS w0 W P q (mk1 n g)) :
    Calls Try.prog 16 #[.pointer (some ⟨q, 0, none⟩), .int .i64 0, shQ 0 0 n g 3] W fun en w' => ∃ hp rb, en = .returned (.tuple #[.pointer (some ⟨hp, 0, none⟩), .int .i64 0]) ∧
      SV w0 w' (fun k => P k ∨ k = hp ∨ k = rb) q (stM n g) hp rb (stW n g) ∧ Same P W w' ∧ W.heap.size ≤ hp ∧ W.heap.size ≤ rb := by
  have hd1 := makeM_done (dev1 n g) (0 : Int) n g
  have hd0 : (dev1 n g).done.length = 0 := rfl
  exact mount_mtb h (r := 0) (e := 1) (S0 := firstS n) (Rs := []) (mk1_idle hn hg).1.mtb_now (by omega) (by omega) 3 (by simp) (by unfold mk1 at *; omega)
theorem log_trace {r : Nat} : ∀ (l : List (List Int)) (m : DM) (o : Nat), m.stops = false → (∀ i : Nat, i < l.length → hasB m (r : Int) ((2 + (o + i) : Nat) : Int) = true) → (∀ b ∈ l, b.length = 64) → (traceL (logW r m o l) r).length = (traceL m r).length + l.length
  | [], _, _, _, _, _ => rfl
  | b :: l, m, o, hs, hb, hl => by
    have hst : stopped m = false := by unfold stopped; rw [hs]; rfl
    have h0 := hb 0 (by simp)
    have e1 : m.doWrite (r : Int) ((2 + o : Nat) : Int) b = m.write r (2 + o) b := by
      unfold DM.doWrite
      rw [if_pos ⟨h0, hl b (by simp), hst⟩, Int.toNat_natCast, Int.toNat_natCast]
    show (traceL (logW r (m.doWrite (r : Int) ((2 + o : Nat) : Int) b) (o + 1) l) r).length = _
    rw [log_trace l _ (o + 1) (by rw [e1]; exact hs) (fun i hi => ?_) (fun c hc => hl c (by simp [hc])), e1, traceL_write, if_pos rfl]
    · simp; omega
    · rw [hasB_dims (dims_doWrite m _ _ b)]
      have := hb (i + 1) (by simp; omega)
      rw [show 2 + (o + 1 + i) = 2 + (o + (i + 1)) by omega]; exact this
theorem Live.put_trace {m : DM} {v : VM} {r n g e : Nat} {S0 : List Bk} {Rs : List (List Wr)} {k : Nat} (h : Live m v r n g e S0 Rs k) {l : List Wr} (hm : MayL l) (hok : WrsOk l) (hs : m.stops = false) (hfit : v.us + (1 + l.length) ≤ g) : (traceL (putM m v l) r).length = (traceL m r).length + (1 + l.length) := by
  unfold putM
  rw [h.tied.vr, log_trace _ _ _ hs (fun i hi => ?_) (fun b hb => (putL_blk _ _ hm hok b hb).1), putL_length]
  rw [putL_length] at hi
  rw [h.idle.fit.hB]
  have := h.idle.fit.len
  exact decide_eq_true (by omega)
theorem Started.blk {m : DM} {v : VM} {n g : Nat} (h : Started m v n g) {i : Nat} (h1 : 1 ≤ i) (h2 : i < n) : hasV v i = true ∧ (getB v i).k = 0 ∧ (getB v i).bs = zBs := by
  have hl : v.B.length = v.n := h.live.tied.vok.len
  have hn := h.n_
  obtain ⟨x, hx⟩ : ∃ x, v.B[i]? = some x := ⟨_, List.getElem?_eq_getElem (by omega)⟩
  obtain ⟨a, b⟩ := getB_in hl hx
  have h3 := h.live.tied.at_ hx
  have h4 := firstS_at (show (firstS n)[i]? = some (val x) from h3)
  have h5 := h4.2
  have h6 : firstK i = 0 := if_neg (by omega)
  have h7 : firstB i = zBs := if_neg (by omega)
  rw [h6, h7] at h5
  have h8 : x.k = 0 := congrArg Bk.k h5
  have h9 : x.bs = zBs := congrArg Bk.bs h5
  exact ⟨a, by rw [b, h8], by rw [b, h9]⟩
section
variable {ops : Array Oper} {rest : List Oper} {o : Oper} {a : Act} {w : World} {Q : Exit → Act → World → Prop}
theorem wpList_loadB9 (hw : Region.wanted o (yielded ops a.tmps) = true) (x : Operand) (ho : o.op = .load 46 x) (g : Nat) (hx : a.eval x = .pointer (some ⟨g, 0, none⟩)) (k : Int) (bs : List Int) (h56 : bs.length = 56) (hg : w.heap[g]? = some (.cells (blkA k bs) 46 (0, 0)))
    (h : wpList Try.prog ops Q rest (a.put o.dst (.agg (blkA k bs))) w) : wpList Try.prog ops Q (o :: rest) a w :=
  BigFrame.wpList_want hw fun _ hK => wp_load_row 46 x ho g hx _ _ _ _ hg Try.underlying46 rfl (by rw [blkA_size h56]; kernel_rfl) (hK _ _ h)
theorem guardB9 : Try.prog.eqGuardType Try.prog.depth 46 = false := by kernel_rfl
theorem wpList_neqB9 (hw : Region.wanted o (yielded ops a.tmps) = true) (x y : Operand) (t : TypeId) (ho : o.op = .binOp .neq 46 x y t) (k j : Int) (bs cs : List Int) (hx : a.eval x = .agg (blkA k bs)) (hy : a.eval y = .agg (blkA j cs)) (hb : bs.length = 56) (hB : AllB bs) (hc : cs.length = 56) (hC : AllB cs)
    (h : wpList Try.prog ops Q rest (a.put o.dst (.bool (!decide (k = j ∧ bs = cs)))) w) : wpList Try.prog ops Q (o :: rest) a w :=
  BigFrame.wpList_want hw fun _ hK => by
    have hg := run_eqGuard_agg (P := Try.prog) w .neq 46 x y (blkA k bs) (blkA j cs) guardB9
    have hr := run_neq_struct (P := Try.prog) w 46 (blkA k bs) (blkA j cs)
    rw [eqlB 9997 k j bs cs hb hc hB hC w] at hr
    unfold Oper.wp execOp
    simp only [ho, hx, hy, Sem.run_bind, hg, hr, Result.andThen_ok]
    exact hK _ _ h
theorem wpList_buildB9 (hw : Region.wanted o (yielded ops a.tmps) = true) (ho : o.op = .build 46 #[])
    (h : wpList Try.prog ops Q rest (a.put o.dst (.agg (blkA 0 zBs))) w) : wpList Try.prog ops Q (o :: rest) a w :=
  BigFrame.wpList_want hw fun _ hK => by
    unfold Oper.wp execOp
    have hb := run_build (P := Try.prog) w 46 #[] _ built24
    simp only [ho, List.map_toArray, List.map_nil, Sem.run_bind, hb, Result.andThen_ok]
    exact hK _ _ h
end
end Go.Proofs.Ytamnpblijdgdaaa
