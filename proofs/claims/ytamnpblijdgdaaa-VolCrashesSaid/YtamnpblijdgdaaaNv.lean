/- A change of a vol that goes on; contract: begun, the opening test. -/
import Derived.Test.YtamnpblijdgdaaaNu
namespace Go.Proofs.Ytamnpblijdgdaaa
open Go.ChangeShapes Go.WideShapes Go.ChangeAt Go.RowKit
set_option linter.unusedVariables false
set_option maxRecDepth 100000
/-! The share's box. -/
def shC (n g : Nat) (f : Int) : Array Value := #[.int .i64 0, .int .i64 0, .int .i64 n, .int .i64 g, .int .i64 f]
theorem shC_one (n g : Nat) (f : Int) : (shC n g f).all (·.oneCell') = true := by
  refine Array.all_eq_true_iff_forall_mem.2 fun v hv => ?_
  unfold shC at hv
  simp only [List.mem_toArray, List.mem_cons, List.not_mem_nil, or_false] at hv
  rcases hv with rfl | rfl | rfl | rfl | rfl <;> rfl
theorem size30 : (Try.prog.info? 30).map (·.size) = some 5 := by kernel_rfl
section
variable {ops : Array Oper} {rest : List Oper} {o : Oper} {a : Act} {w : World} {Q : Exit → Act → World → Prop}
theorem wpList_storeS (hgd : o.guard = none) (x y : Operand) (ho : o.op = .store 30 x y) (p : Nat) (hx : a.eval x = .pointer (some ⟨p, 0, none⟩)) (n g : Nat) (f : Int) (hy : a.eval y = .agg (shC n g f)) (old : Array Value) (hso : old.size = 5) (hg : w.heap[p]? = some (.cells old 30 (0, 0)))
    (h : wpList Try.prog ops Q rest (a.put o.dst undef) (w.setRow p (shC n g f))) : wpList Try.prog ops Q (o :: rest) a w :=
  wpList_store_row hgd 30 x y ho p _ hx hy _ _ hg (by rw [show (shC n g f).size = 5 from rfl]; exact size30) (by rw [hso]; rfl) (shC_one _ _ _) h
theorem wpList_loadS (hgd : o.guard = none) (x : Operand) (ho : o.op = .load 30 x) (p : Nat) (hx : a.eval x = .pointer (some ⟨p, 0, none⟩)) (n g : Nat) (f : Int) (hg : w.heap[p]? = some (.cells (shC n g f) 30 (0, 0)))
    (h : wpList Try.prog ops Q rest (a.put o.dst (.agg (shC n g f))) w) : wpList Try.prog ops Q (o :: rest) a w :=
  wpList_load_row hgd 30 x ho p hx _ _ _ _ hg Try.underlying30 rfl (by rw [show (shC n g f).size = 5 from rfl]; exact size30) h
theorem wpList_loadSw (hw : Region.wanted o (yielded ops a.tmps) = true) (x : Operand) (ho : o.op = .load 30 x) (p : Nat) (hx : a.eval x = .pointer (some ⟨p, 0, none⟩)) (n g : Nat) (f : Int) (hg : w.heap[p]? = some (.cells (shC n g f) 30 (0, 0)))
    (h : wpList Try.prog ops Q rest (a.put o.dst (.agg (shC n g f))) w) : wpList Try.prog ops Q (o :: rest) a w :=
  BigFrame.wpList_want hw fun _ hK => wp_load_row 30 x ho p hx _ _ _ _ hg Try.underlying30 rfl (by rw [show (shC n g f).size = 5 from rfl]; exact size30) (hK _ _ h)
end
/-! A change of a vol that goes on. -/
def stV (v : VM) : List Bk := v.B.map val
theorem stV_home (v : VM) : stV (homeV v) = stV v := unlog_val v.B
theorem stV_put (v : VM) (l : List Wr) : stV (putV v l) = applyW (stV v) l := layB_val l v.B
theorem stV_ch {v : VM} {l : List Wr} (h : ChOk v l) : stV (chV v l) = applyW (stV v) l := by
  unfold chV
  rw [if_pos h]
  split
  · rw [stV_put, stV_home]
  · exact stV_put _ _
theorem stV_no {v : VM} {l : List Wr} (h : ¬ ChOk v l) : chV v l = v := if_neg h
theorem putsL_few (e : Nat) : ∀ (Rs : List (List Wr)) (s : Nat), Rs.length ≤ (putsL e s Rs).length
  | [], _ => Nat.le_refl _
  | l :: Rs, s => by
    show Rs.length + 1 ≤ (putL 0 e s l ++ putsL e (s + 1) Rs).length
    rw [List.length_append, putL_length]
    have := putsL_few e Rs (s + 1)
    omega
section
variable {m : DM} {v : VM} {r n g e : Nat} {S0 : List Bk} {Rs : List (List Wr)} {k : Nat}
theorem Live.usg (h : Live m v r n g e S0 Rs k) : v.us ≤ v.g := by rw [h.us, h.tied.vg]; have := h.idle.fits; omega
theorem Live.sqg (h : Live m v r n g e S0 Rs k) : v.sq ≤ v.g := by
  have h1 := putsL_few e Rs 0
  have h2 := h.usg
  rw [h.us] at h2
  rw [h.sq]; omega
theorem Live.st (h : Live m v r n g e S0 Rs k) : stV v = applyW S0 Rs.flatten := h.tied.val
theorem Live.gle (h : Live m v r n g e S0 Rs k) : g ≤ 1000 := by rw [← h.tied.vg]; exact h.tied.vok.g
/-- A vol, and its region, that go on: of an epoch e. -/
def Lv (m : DM) (v : VM) (r n g : Nat) : Prop := ∃ S0 Rs k, Live m v r n g v.ep S0 Rs k
theorem Live.lv (h : Live m v r n g e S0 Rs k) : Lv m v r n g := ⟨S0, Rs, k, by have := h.tied.ve; rw [this]; exact h⟩
theorem chOk_pos {v : VM} {l : List Wr} (h : ChOk v l) : 1 ≤ l.length ∧ l.length ≤ 12 := h.1.1
theorem Live.change (h : Live m v r n g e S0 Rs k) {l : List Wr} (hok : WrsOk l) (hc : ChOk v l) (hg : 13 ≤ g) (he : e + 1 < 65000) (hst : stopped (chM m v l) = false) : ∃ S0' Rs' k', Live (chM m v l) (chV v l) r n g (if Tight v l then e + 1 else e) S0' Rs' k' := by
  have hl := chOk_pos hc
  have hgl := h.gle
  by_cases ht : Tight v l
  · have e1 : chM m v l = putM (tidyM m v) (homeV v) l := by unfold chM; rw [if_pos hc, if_pos ht]
    have e2 : chV v l = putV (homeV v) l := by unfold chV; rw [if_pos hc, if_pos ht]
    rw [e1] at hst ⊢
    rw [e2, if_pos ht]
    have hs : stopped (tidyM m v) = false := by
      cases hs : stopped (tidyM m v)
      · rfl
      · unfold putM at hst; rw [logW_stop hs, hs] at hst; cases hst
    have h1 := (h.tidy he hs).1
    exact ⟨_, _, _, h1.put ⟨hc.1, hok⟩ (by show 0 + (1 + l.length) ≤ g; omega) (by show 0 + 1 < 4294967296; omega) hst⟩
  · have e1 : chM m v l = putM m v l := by unfold chM; rw [if_pos hc, if_neg ht]
    have e2 : chV v l = putV v l := by unfold chV; rw [if_pos hc, if_neg ht]
    rw [e1] at hst ⊢
    rw [e2, if_neg ht]
    have hu := h.usg
    have hq := h.sqg
    unfold Tight at ht
    rw [h.tied.vg] at ht hu hq
    exact ⟨_, _, _, h.put ⟨hc.1, hok⟩ (by omega) (by omega) hst⟩
theorem chV_ep (v : VM) (l : List Wr) : (chV v l).ep = if ChOk v l ∧ Tight v l then v.ep + 1 else v.ep := by
  unfold chV
  by_cases hc : ChOk v l
  · rw [if_pos hc]
    by_cases ht : Tight v l
    · rw [if_pos ht, if_pos ⟨hc, ht⟩]; rfl
    · rw [if_neg ht, if_neg (fun h => ht h.2)]; rfl
  · rw [if_neg hc, if_neg (fun h => hc h.1)]
theorem Lv.change (h : Lv m v r n g) {l : List Wr} (hok : WrsOk l) (hg : 13 ≤ g) (he : v.ep + 1 < 65000) (hns : m.stops = false) : Lv (chM m v l) (chV v l) r n g ∧ v.ep ≤ (chV v l).ep ∧ (chV v l).ep ≤ v.ep + 1 ∧ (chM m v l).stops = false := by
  obtain ⟨S0, Rs, k, h⟩ := h
  have hn : (chM m v l).stops = false := by rw [ns_ch]; exact hns
  have hep := chV_ep v l
  refine ⟨?_, by rw [hep]; split <;> omega, by rw [hep]; split <;> omega, hn⟩
  by_cases hc : ChOk v l
  · obtain ⟨S0', Rs', k', h1⟩ := h.change hok hc hg he (ns_of hn)
    exact h1.lv
  · have e1 : chM m v l = m := if_neg hc
    rw [e1, stV_no hc]; exact ⟨S0, Rs, k, h⟩
theorem Lv.usg (h : Lv m v r n g) : v.us ≤ v.g := by obtain ⟨_, _, _, h⟩ := h; exact h.usg
theorem Lv.sqg (h : Lv m v r n g) : v.sq ≤ v.g := by obtain ⟨_, _, _, h⟩ := h; exact h.sqg
theorem Lv.parts (h : Lv m v r n g) : v.r = (r : Int) ∧ v.n = n ∧ v.g = g ∧ v.Ok ∧ g ≤ 1000 ∧ n ≤ 200 := by
  obtain ⟨_, _, _, h⟩ := h; exact ⟨h.tied.vr, h.tied.vn, h.tied.vg, h.tied.vok, h.gle, h.idle.n200⟩
end
theorem putM_done (m : DM) (v : VM) (l : List Wr) : (putM m v l).done.length ≤ m.done.length + (1 + l.length) := by
  unfold putM
  have := logW_done v.r (putL 0 v.ep v.sq l) m v.us
  rw [putL_length] at this
  exact this
theorem chM_done (m : DM) (v : VM) (l : List Wr) : (chM m v l).done.length ≤ m.done.length + v.B.length + 17 := by
  unfold chM
  by_cases hc : ChOk v l
  · have hl := chOk_pos hc
    rw [if_pos hc]
    split
    · have h1 := putM_done (tidyM m v) (homeV v) l
      have h2 := tidyM_done m v
      omega
    · have h1 := putM_done m v l
      omega
  · rw [if_neg hc]; omega
/-- Mounted anew, where nothing stops. -/
theorem Lv.mount {m : DM} {v : VM} {r n g : Nat} (h : Lv m v r n g) (hns : m.stops = false) (he : v.ep + 1 < 65000) (hr : r < 1000) (fr : Int) : ∃ (S0 : List Bk) (Rs : List (List Wr)), Mtb m r n g v.ep S0 Rs ∧ Rs.length ≤ 1000 ∧ Live (homeM m (mntV m r n g v.ep fr Rs)) (homeV (mntV m r n g v.ep fr Rs)) r n g (v.ep + 1) (stV v) [] 0 ∧ AllSure (homeM m (mntV m r n g v.ep fr Rs)) r ∧ stV (homeV (mntV m r n g v.ep fr Rs)) = stV v ∧ (homeM m (mntV m r n g v.ep fr Rs)).stops = false := by
  obtain ⟨S0, Rs, k, h⟩ := h
  have hm := h.idle.mtb_now
  have hg := h.gle
  have ht := hm.tied fr hr hg
  have hn : (homeM m (mntV m r n g v.ep fr Rs)).stops = false := by rw [ns_home]; exact hns
  have h1 := hm.live ht he (ns_of hn)
  rw [← h.st] at h1
  have h2 := h.sqg
  rw [h.sq, h.tied.vg] at h2
  exact ⟨S0, Rs, hm, by omega, h1.1, h1.2, by rw [stV_home]; exact ht.val.trans h.st.symm, hn⟩
theorem homeM_done' (m : DM) (r n g e : Nat) (fr : Int) (Rs : List (List Wr)) : (homeM m (mntV m r n g e fr Rs)).done.length ≤ m.done.length + n + 3 := by
  have h1 := homeM_done m (mntV m r n g e fr Rs)
  have h2 : (mntV m r n g e fr Rs).B.length = n := by show (fetchB _ 0 _).length = n; rw [fetchB_length, layB_length, List.length_replicate]
  omega
theorem makeM_done (m : DM) (r : Int) (n g : Nat) : (makeM m r n g).done.length ≤ m.done.length + n + 3 := by
  have h1 := firstW_done r g m n
  have h2 := done_doBarrier (firstW r g m n) r
  have h3 := done_doWrite ((firstW r g m n).doBarrier r) r ((1 % 2 : Nat) : Int) (anchorB 0 1)
  have h4 := done_doBarrier (((firstW r g m n).doBarrier r).doWrite r ((1 % 2 : Nat) : Int) (anchorB 0 1)) r
  unfold makeM DM.doBegin
  omega
/-! A new device. -/
theorem make_row {zs : List Int} {r : Nat} {z : Int} (h : zs[r]? = some z) : nowRow (DM.make zs) r = zeroRow z := by
  unfold nowRow DM.make
  show (zs.map zeroRow).getD r [] = _
  rw [List.getD, List.getElem?_map, h]; rfl
theorem make_fit {zs : List Int} (hm : mayV zs = true) {r : Nat} {z : Int} (h : zs[r]? = some z) {N : Nat} (hN : N ≤ z.toNat) : Fit (DM.make zs) r N := by
  refine ⟨DM.make_ok hm, Told.make zs, ?_, ?_⟩
  · show r < (zs.map zeroRow).length
    rw [List.length_map]; exact (List.getElem?_eq_some_iff.1 h).1
  · rw [make_row h]
    unfold zeroRow
    rw [List.length_replicate]; exact hN
theorem make_zero {zs : List Int} {r : Nat} {z : Int} (h : zs[r]? = some z) {i : Nat} {b : List Int} (hb : (nowRow (DM.make zs) r)[i]? = some b) : b = z64b := by
  rw [make_row h] at hb
  unfold zeroRow at hb
  exact List.eq_of_mem_replicate (List.mem_of_getElem? hb)
/-- Made in a new device. -/
theorem new_idle {zs : List Int} (hm : mayV zs = true) {r : Nat} {z : Int} (h : zs[r]? = some z) {n g : Nat} (hN : 2 + g + n ≤ z.toNat) (hn : n ≤ 200) : Idle (makeM (DM.make zs) r n g) r n g 1 (firstS n) [] 0 [] 0 ∧ AllSure (makeM (DM.make zs) r n g) r ∧ (makeM (DM.make zs) r n g).stops = false :=
  ⟨(make_idle (make_fit hm h hN) rfl hn (fun i b _ hb => make_zero h hb)).1, (make_idle (make_fit hm h hN) rfl hn (fun i b _ hb => make_zero h hb)).2, by rw [ns_make]; rfl⟩
end Go.Proofs.Ytamnpblijdgdaaa
