/- Contracts: the ground of a vol: groundOf, barrier, write, atFirst. -/
import Derived.Test.YtamnpblijdgdaaaDD
import Derived.Test.YtamnpblijdgdaaaAr
import Derived.Test.YtamnpblijdgdaaaLb
import Derived.Test.YtamnpblijdgdaaaKZ
import Derived.Test.YtamnpblijdgdaaaRk
namespace Go.Proofs.Ytamnpblijdgdaaa
open Go.ChangeShapes Go.WideShapes Go.ChangeAt Go.RowKit
set_option linter.unusedVariables false
set_option maxRecDepth 100000
/-- A ground as a value: of a device (or none), a region, n blocks, a log of g. -/
def gndC (d : Option Addr) (r : Int) (n g : Nat) (f : Int) : Array Value := #[.pointer d, .int .i64 r, .int .u8 0, .int .i64 0, .int .i64 0, .int .i64 n, .int .i64 g, .int .i64 f]
theorem gndC_one (d : Option Addr) (r : Int) (n g : Nat) (f : Int) : (gndC d r n g f).all (·.oneCell') = true := by
  refine Array.all_eq_true_iff_forall_mem.2 fun v hv => ?_
  unfold gndC at hv
  simp only [List.mem_toArray, List.mem_cons, List.not_mem_nil, or_false] at hv
  rcases hv with rfl | rfl | rfl | rfl | rfl | rfl | rfl | rfl <;> rfl
theorem size82 : (Try.prog.info? 82).map (·.size) = some 8 := by kernel_rfl
section
variable {ops : Array Oper} {rest : List Oper} {o : Oper} {a : Act} {w : World} {Q : Exit → Act → World → Prop}
theorem wpList_storeG (hgd : o.guard = none) (x y : Operand) (ho : o.op = .store 82 x y) (p : Nat) (hx : a.eval x = .pointer (some ⟨p, 0, none⟩)) (cs : Array Value) (hs : cs.size = 8) (h1 : cs.all (·.oneCell') = true) (hy : a.eval y = .agg cs) (old : Array Value) (hso : old.size = 8) (hg : w.heap[p]? = some (.cells old 82 (0, 0)))
    (h : wpList Try.prog ops Q rest (a.put o.dst undef) (w.setRow p cs)) : wpList Try.prog ops Q (o :: rest) a w :=
  wpList_store_row hgd 82 x y ho p _ hx hy _ _ hg (by rw [hs]; exact size82) (by rw [hs, hso]) h1 h
theorem wpList_loadG (hgd : o.guard = none) (x : Operand) (ho : o.op = .load 82 x) (p : Nat) (hx : a.eval x = .pointer (some ⟨p, 0, none⟩)) (cs : Array Value) (hs : cs.size = 8) (hg : w.heap[p]? = some (.cells cs 82 (0, 0)))
    (h : wpList Try.prog ops Q rest (a.put o.dst (.agg cs)) w) : wpList Try.prog ops Q (o :: rest) a w :=
  wpList_load_row hgd 82 x ho p hx _ _ _ _ hg Try.underlying82 rfl (by rw [hs]; exact size82) h
end
theorem results_gnd {fn : Func} {p u : Tmp} (h : fn.results = #[.cell p 82, .tmp u]) (tmps : Array Value) (w : World) (g : Nat) (cs : Array Value) (hp : tmps.getD p undef = .pointer (some ⟨g, 0, none⟩)) (h8 : cs.size = 8) (hg : w.heap[g]? = some (.cells cs 82 (0, 0))) :
    (results fn tmps).run Try.prog w = .ok (.tuple #[.agg cs, tmps.getD u undef]) w := by
  rw [results_cell_tmp h, hp]
  simp only [asAddr, Sem.run_pure, Result.andThen_ok]
  rw [run_loadVar_row w g _ _ _ _ _ hg Try.underlying82 rfl (by rw [h8]; exact size82)]
  rfl
def gndA (d : Option Addr) (r : Int) (n g : Nat) (f : Int) : Value := .agg (gndC d r n g f)
theorem groundOf_any (d : Option Addr) (r : Int) (n g : Nat) (f : Int) (hn : n ≤ 200) (hg : g ≤ 1000) (w : World) :
    Calls Try.prog 33 #[.pointer d, .int .i64 r, shQ 0 0 n g f] w fun e w' => e = .returned (.tuple #[gndA d r n g f, .bool true]) ∧ Below w.heap.size w w' := by
  have HP := Lib.hid (fun W => Put_yes 0 0 W (by omega) (by omega))
  have hd1 : decide ((n : Int) < 0) = false := decide_eq_false (by omega)
  have hd2 : decide (200 < (n : Int)) = false := decide_eq_false (by omega)
  have hd3 : decide ((g : Int) < 0) = false := decide_eq_false (by omega)
  unfold shQ gndA
  go_enter Try.func33, Try.ntmps33
  go_wp2_with fail
  have hb0 : Below w.heap.size w ((w.alloc (Obj.cells #[.int .i64 0, .int .i64 0, .int .i64 n, .int .i64 g, .int .i64 f] 30)).alloc (Obj.cells #[.pointer none, .int .i64 0, .int .u8 0, .int .i64 0, .int .i64 0, .int .i64 0, .int .i64 0, .int .i64 0] 82)) := ((Below.refl _ _).alloc (Nat.le_refl _) _).alloc (by simp) _
  have hs0 := heap_alloc_new w (Obj.cells #[.int .i64 0, .int .i64 0, .int .i64 n, .int .i64 g, .int .i64 f] 30)
  have hs1 := heap_alloc_new (w.alloc (Obj.cells #[.int .i64 0, .int .i64 0, .int .i64 n, .int .i64 g, .int .i64 f] 30)) (Obj.cells #[.pointer none, .int .i64 0, .int .u8 0, .int .i64 0, .int .i64 0, .int .i64 0, .int .i64 0, .int .i64 0] 82)
  have hs2 := (Below.heap_alloc (w.alloc (Obj.cells #[.int .i64 0, .int .i64 0, .int .i64 n, .int .i64 g, .int .i64 f] 30)) (Obj.cells #[.pointer none, .int .i64 0, .int .u8 0, .int .i64 0, .int .i64 0, .int .i64 0, .int .i64 0, .int .i64 0] 82) w.heap.size (by simp)).trans hs0
  have hz : (w.alloc (Obj.cells #[.int .i64 0, .int .i64 0, .int .i64 n, .int .i64 g, .int .i64 f] 30)).heap.size = w.heap.size + 1 := by simp
  rw [hz] at hs1
  clear hs0 hz
  generalize (w.alloc (Obj.cells #[.int .i64 0, .int .i64 0, .int .i64 n, .int .i64 g, .int .i64 f] 30)).alloc (Obj.cells #[.pointer none, .int .i64 0, .int .u8 0, .int .i64 0, .int .i64 0, .int .i64 0, .int .i64 0, .int .i64 0] 82) = W0 at *
  refine (HP.out _).mono ?_
  rintro e w1 ⟨rfl, hb⟩
  have hs3 := kb hb hs1
  have hs4 := kb hb hs2
  have HB := Lib.hid (keepB hb0 hb)
  have x0 := blk_cell hs4 0
  have x1 := blk_cell hs4 1
  have x2 := blk_cell hs4 2
  have x3 := blk_cell hs4 3
  have x4 := blk_cell hs4 4
  simp only [List.getElem?_toArray, List.getElem?_cons_zero, List.getElem?_cons_succ] at x0 x1 x2 x3 x4
  generalize hh0 : w.heap.size = h0 at *
  have y0 : w1.cell? ⟨h0 + 1, 0, none⟩ = some (.pointer none) := blk_cell hs3 0
  clear hs1 hs2 hs4 hb hb0
  go_wp2_with (refine wpList_storeG rfl (.tmp 6) (.tmp 38) rfl (h0 + 1) rfl (gndC d r n g f) rfl (gndC_one _ _ _ _ _) rfl _ rfl hs3 ?_)
  have hs5 := setRow_blk (D := gndC d r n g f) hs3
  have HB2 := Lib.hid (below_setRow HB.out (show h0 ≤ h0 + 1 by omega) (gndC d r n g f))
  refine bodyPost_ret (results_gnd rfl _ _ (h0 + 1) _ rfl rfl hs5) rfl ?_
  exact ⟨rfl, by rw [hh0]; exact HB2.out⟩
theorem gbarrier_any {w0 W : World} {P : Nat → Prop} {q : Nat} {m : DM} (h : DS w0 W P q m) (r : Int) (hr : i64 r) (n g : Nat) (f : Int) (hmax : m.done.length < 1000000) :
    Calls Try.prog 43 #[gndA (some ⟨q, 0, none⟩) r n g f] W fun e w' => e = .returned (.tuple #[]) ∧ DS w0 w' P q (m.doBarrier r) ∧ Same P W w' := by
  have HD := Lib.hid h
  have HM := Lib.hid hmax
  clear h hmax
  unfold gndA gndC
  go_enter Try.func43, Try.ntmps43
  go_wp2_with fail
  have hb : ∀ o, Below W.heap.size W (W.alloc o) := fun o => (Below.refl _ _).alloc (Nat.le_refl _) _
  have hd := fun o => HD.out.below (hb o) (fun k hk => Or.inl hk)
  refine ((hd _).barrier r hr HM.out).mono ?_
  rintro e w' ⟨rfl, hd', hs⟩
  have HS := Lib.hid ((HD.out.same (hb _)).trans hs)
  have HD' := Lib.hid hd'
  clear hd hb hd' hs HD
  go_wp2
  go_end0
  exact ⟨rfl, HD'.out, HS.out⟩
theorem gwrite_any {w0 W : World} {P : Nat → Prop} {q : Nat} {m : DM} (h : DS w0 W P q m) (r : Int) (hr : i64 r) (n g : Nat) (f : Int) (i : Int) (hi : i64 i) (A : Option Addr) (bs : List Int) (c : Nat) (hB : BlkOk bs) (hy : Byt W A bs) (hmax : m.done.length ≤ 1000000) :
    Calls Try.prog 61 #[gndA (some ⟨q, 0, none⟩) r n g f, .int .i64 i, .slice A 64 c] W fun e w' => e = .returned (.tuple #[]) ∧ DS w0 w' P q (m.doWrite r i bs) ∧ Same P W w' := by
  have HD := Lib.hid h
  have HM := Lib.hid hmax
  have HY := Lib.hid hy
  have HBB := Lib.hid hB
  clear h hmax hy hB
  unfold gndA gndC
  go_enter Try.func61, Try.ntmps61
  go_wp2_with fail
  have hb : ∀ o, Below W.heap.size W (W.alloc o) := fun o => (Below.refl _ _).alloc (Nat.le_refl _) _
  have hd := fun o => HD.out.below (hb o) (fun k hk => Or.inl hk)
  have hw := fun o => (hd o).write r i hr hi A bs c HBB.out.2 (HY.out.alloc o) (by rw [HBB.out.1]; omega) HM.out
  rw [HBB.out.1] at hw
  refine (hw _).mono ?_
  rintro e w' ⟨rfl, hd', hs⟩
  have HS := Lib.hid ((HD.out.same (hb _)).trans hs)
  have HD' := Lib.hid hd'
  clear hd hb hd' hs HD hw
  go_wp2
  go_end0
  exact ⟨rfl, HD'.out, HS.out⟩
/-- What a label's blocks are at first. -/
def firstK (i : Nat) : Int := if i = 0 then 7 else 0
def firstB (i : Nat) : List Int := if i = 0 then zBs.set 3 1 else zBs
theorem firstB_len (i : Nat) : (firstB i).length = 56 := by unfold firstB; split <;> simp [zBs]
theorem firstB_ok (i : Nat) : AllB (firstB i) := by
  have hz : AllB zBs := fun x hx => by unfold zBs at hx; rw [List.eq_of_mem_replicate hx]; omega
  unfold firstB
  split
  · intro x hx
    rcases List.mem_or_eq_of_mem_set hx with h | h
    · exact hz x h
    · omega
  · exact hz
theorem alloc2 (w : World) (o1 o2 : Obj) : ((w.alloc o1).alloc o2).heap[w.heap.size]? = some o1 ∧ ((w.alloc o1).alloc o2).heap[w.heap.size + 1]? = some o2 ∧ Below w.heap.size w ((w.alloc o1).alloc o2) := by
  have hs : (w.alloc o1).heap.size = w.heap.size + 1 := by simp
  refine ⟨(Below.heap_alloc (w.alloc o1) o2 w.heap.size (by omega)).trans (heap_alloc_new w o1), ?_, ((Below.refl _ _).alloc (Nat.le_refl _) _).alloc (by omega) _⟩
  rw [← hs]; exact heap_alloc_new (w.alloc o1) o2
theorem atFirst_any (i : Nat) (w : World) : Calls Try.prog 36 #[.int .i64 i] w fun e w' => e = .returned (.agg (blkA (firstK i) (firstB i))) ∧ Below w.heap.size w w' := by
  obtain ⟨e0, e1, hb⟩ := alloc2 w (Obj.cells (blkA 0 zBs) 46) (Obj.cells (blkA 0 zBs) 46)
  by_cases hi : i = 0
  · subst hi
    go_enter Try.func36, Try.ntmps36
    go_upto_region 3 with (refine wpList_allocB rfl rfl ?_)
    generalize hh : w.heap.size = h0 at *
    have hz : (w.alloc (Obj.cells (blkA 0 zBs) 46)).heap.size = h0 + 1 := by simp [hh]
    generalize (w.alloc (Obj.cells (blkA 0 zBs) 46)).alloc (Obj.cells (blkA 0 zBs) 46) = W at *
    have c0 : W.cell? ⟨h0 + 1, 0, none⟩ = some (.int .i64 0) := (blk_cell e1 0).trans rfl
    have f0 : W.frozen? ⟨h0 + 1, 0, none⟩ = false := blk_free e1 0
    go_upto_region 4 with fail
    have e2 := heap_setCell_same' e1 (i := 0) (.int .i64 7)
    rw [blkA_set0] at e2
    have e3 : (W.setCell ⟨h0 + 1, 0, none⟩ (.int .i64 7)).heap[h0]? = _ := (Below.heap_setCell W ⟨h0 + 1, 0, none⟩ _ h0 (by simp)).trans e0
    have HB := Lib.hid (hb.setCell (p := ⟨h0 + 1, 0, none⟩) (by simp) (.int .i64 7))
    clear c0 f0 e0 e1 hb
    generalize W.setCell ⟨h0 + 1, 0, none⟩ (.int .i64 7) = W2 at *
    have c4 : W2.cell? ⟨h0 + 1, 4, none⟩ = some (.int .u8 0) := (blk_cell e2 4).trans rfl
    have f4 : W2.frozen? ⟨h0 + 1, 4, none⟩ = false := blk_free e2 4
    go_upto_region 5 with fail
    have e4 := heap_setCell_same' e2 (i := 4) (.int .u8 1)
    rw [show (blkA 7 zBs).setIfInBounds 4 (.int .u8 1) = blkA 7 (zBs.set 3 1) from rfl] at e4
    have e5 := (Below.heap_setCell W2 ⟨h0 + 1, 4, none⟩ (.int .u8 1) h0 (by simp)).trans e3
    have HB2 := Lib.hid (HB.out.setCell (p := ⟨h0 + 1, 4, none⟩) (by simp) (.int .u8 1))
    clear c4 f4 e2 e3
    generalize W2.setCell ⟨h0 + 1, 4, none⟩ (.int .u8 1) = W3 at *
    go_wp2_with (first | (refine wpList_loadB rfl (.tmp 3) rfl (h0 + 1) rfl 7 (zBs.set 3 1) (firstB_len 0) e4 ?_) | (refine wpList_storeB rfl (.tmp 2) (.tmp 9) rfl h0 rfl 7 0 (zBs.set 3 1) zBs rfl (firstB_len 0) zBs_len e5 ?_))
    have e6 := setRow_blk (D := blkA 7 (zBs.set 3 1)) e5
    have HB3 := Lib.hid (below_setRow HB2.out (Nat.le_refl _) (blkA 7 (zBs.set 3 1)))
    refine bodyPost_ret (results_cell_row rfl _ _ h0 _ _ _ _ rfl e6 Try.underlying46 rfl (by rw [blkA_size (show (zBs.set 3 1).length = 56 from rfl)]; exact size24b)) rfl ?_
    exact ⟨rfl, by rw [hh]; exact HB3.out⟩
  · have hd : ((i : Int) == 0) = false := by simp; omega
    have hk : firstK i = 0 := by unfold firstK; rw [if_neg hi]
    have hq : firstB i = zBs := by unfold firstB; rw [if_neg hi]
    rw [hk, hq]
    clear hk hq hi
    go_enter Try.func36, Try.ntmps36
    go_upto_region 2 with (refine wpList_allocB rfl rfl ?_)
    generalize hh : w.heap.size = h0 at *
    have hz : (w.alloc (Obj.cells (blkA 0 zBs) 46)).heap.size = h0 + 1 := by simp [hh]
    generalize (w.alloc (Obj.cells (blkA 0 zBs) 46)).alloc (Obj.cells (blkA 0 zBs) 46) = W at *
    go_wp2_with (first | (refine wpList_loadB rfl (.tmp 3) rfl (h0 + 1) rfl 0 zBs zBs_len e1 ?_) | (refine wpList_storeB rfl (.tmp 2) (.tmp 9) rfl h0 rfl 0 0 zBs zBs rfl zBs_len zBs_len e0 ?_))
    have e6 := setRow_blk (D := blkA 0 zBs) e0
    have HB3 := Lib.hid (below_setRow hb (Nat.le_refl _) (blkA 0 zBs))
    refine bodyPost_ret (results_cell_row rfl _ _ h0 _ _ _ _ rfl e6 Try.underlying46 rfl (by rw [blkA_size zBs_len]; exact size24b)) rfl ?_
    exact ⟨rfl, by rw [hh]; exact HB3.out⟩
/-- The cells of a ground in memory. -/
theorem gnd_cells {W : World} {p : Nat} {d : Option Addr} {r : Int} {n g : Nat} {f : Int} {t : TypeId} {fr : Nat × Nat} (h : W.heap[p]? = some (.cells (gndC d r n g f) t fr)) :
    W.cell? ⟨p, 0, none⟩ = some (.pointer d) ∧ W.cell? ⟨p, 1, none⟩ = some (.int .i64 r) ∧ W.cell? ⟨p, 2, none⟩ = some (.int .u8 0) ∧ W.cell? ⟨p, 3, none⟩ = some (.int .i64 0) ∧ W.cell? ⟨p, 4, none⟩ = some (.int .i64 0) ∧ W.cell? ⟨p, 5, none⟩ = some (.int .i64 n) ∧ W.cell? ⟨p, 6, none⟩ = some (.int .i64 g) ∧ W.cell? ⟨p, 7, none⟩ = some (.int .i64 f) :=
  ⟨(blk_cell h 0).trans rfl, (blk_cell h 1).trans rfl, (blk_cell h 2).trans rfl, (blk_cell h 3).trans rfl, (blk_cell h 4).trans rfl, (blk_cell h 5).trans rfl, (blk_cell h 6).trans rfl, (blk_cell h 7).trans rfl⟩
end Go.Proofs.Ytamnpblijdgdaaa
