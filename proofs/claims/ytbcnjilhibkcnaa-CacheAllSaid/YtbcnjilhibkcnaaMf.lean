/- Contract: clathriref4's Put of what is there. -/
import Derived.Test.YtbcnjilhibkcnaaMe
namespace Go.Proofs.Ytbcnjilhibkcnaa
open Go.ChangeShapes Go.WideShapes Go.ChangeAt Go.RowKit
set_option linter.unusedVariables false
theorem RStepK.skip {P : Program} {ops : Array Oper} {T0 : Array Value} {D : List Deferred} {V : Nat → Value → World → Prop} {J : (Nat → Bool) → World → Prop} {S : World → World → Prop} {Q : Exit → Act → World → Prop} {i : Nat} {o : Oper} {g : Nat} {b : Bool} {og : Oper} {d : Nat} (hg : o.guard = some (g, b)) (hog : ops[g]? = some og) (hd : og.dst = some d) (hin : o.after.any (fun e => e.on == g && Region.binds .any e) = true) (hv : ∀ v w, V g v w → v = .bool (!b)) (hV : ∀ w, V i undef w) (hJ : ∀ L w, J L w → J (fun j => if i = j then true else L j) w) : RStepK P ops T0 D V J S Q i o := by
  intro T w L h1 h2 h3 h4 h5
  have hw : ¬ Region.wanted o (yielded ops T) = true := by
    simp only [Array.any_eq_true', Bool.and_eq_true, beq_iff_eq] at hin
    obtain ⟨e, he, e1, e2⟩ := hin
    subst e1
    have := hv _ _ (h5 e he e2 og hog)
    unfold slotOf at this
    rw [hd] at this
    have hT : T[d]? = some (.bool (!b)) := by
      simp only at this
      rw [Array.getD_eq_getD_getElem?] at this
      cases hx : T[d]? with
      | none => rw [hx] at this; cases this
      | some x => rw [hx] at this; rw [show x = _ from this]
    unfold Region.wanted yielded
    rw [hg]
    cases b <;> simp [hog, hd, hT]
  rw [if_neg hw]
  exact ⟨hV w, hJ L w h3⟩
def VP3 (h b n cap k : Nat) (c : Int) (bs : List Int) (q d : Bool) (i : Nat) (v : Value) (w : World) : Prop :=
  match i with
  | 0 | 1 | 5 | 6 | 11 | 12 => v = .pointer (some ⟨h, 0, none⟩)
  | 2 | 7 | 13 => v = .pointer (some ⟨h, 1, none⟩)
  | 3 | 8 | 14 => v = .slice (some ⟨b, 0, none⟩) n cap
  | 4 | 9 | 15 => v = .int .i64 (k : Int)
  | 10 => v = .agg (blkA c bs)
  | 16 | 22 | 25 => v = .pointer (some ⟨b, k * 59, none⟩)
  | 17 | 26 => v = .pointer (some ⟨b, k * 59 + 58, none⟩)
  | 18 | 19 => v = .bool q
  | 21 => v = .bool (q || d)
  | 23 => v = .pointer (some ⟨b, k * 59 + 1, none⟩)
  | 20 => q = false → v = .bool d
  | _ => True
structure JP3 (w0 : World) (h F b n cap k : Nat) (X : List Ent) (R : Nat → Prop) (x : Ent) (c : Int) (bs : List Int) (p : Bool) (w : World) : Prop where
  stp : Stp R w0 w
  rv : RV w h F (if p then X.set k (⟨x.1.t, c, bs⟩, x.2) else X) R (.slice (some ⟨b, 0, none⟩) n cap)
  box : w.heap[w0.heap.size]? = some (.cells (blkA c bs) 32 (0, 0))
  res : w.heap[w0.heap.size + 1]? = some (.cells (wrA zW) 36 (0, 0))
  xk : X[k]? = some x
  fit : i64 c ∧ bs.length = 56 ∧ AllB bs
  old : ∀ y, R y → y < w0.heap.size
section
variable {w0 w : World} {h F b n cap k : Nat} {X : List Ent} {R : Nat → Prop} {x : Ent} {c : Int} {bs : List Int} {p : Bool}
theorem JP3.c1 (H : JP3 w0 h F b n cap k X R x c bs p w) : w.cell? ⟨h, 1, none⟩ = some (.slice (some ⟨b, 0, none⟩) n cap) := H.rv.c1
theorem JP3.c58 (H : JP3 w0 h F b n cap k X R x c bs p w) : w.cell? ⟨b, k * 59 + 58, none⟩ = some (.bool x.2) := by
  have hk := (List.getElem?_eq_some_iff.1 H.xk).1
  have hr := H.rv
  cases p
  · exact hr.cell58 H.xk
  · exact hr.cell58 (x := (⟨x.1.t, c, bs⟩, x.2)) (List.getElem?_set_self hk)
theorem JP3.there (H : JP3 w0 h F b n cap k X R x c bs p w) : w.there b (k * 59 + 1) 57 := by
  have hk := (List.getElem?_eq_some_iff.1 H.xk).1
  refine H.rv.thereB ?_
  cases p
  · exact hk
  · show k < (X.set k _).length; rw [List.length_set]; exact hk
theorem JP3.stored (H : JP3 w0 h F b n cap k X R x c bs p w) (hp : p = false) : JP3 w0 h F b n cap k X R x c bs true (w.setCells b (k * 59 + 1) (blkL c bs)) := by
  subst hp
  have hr : RV w h F X R (.slice (some ⟨b, 0, none⟩) n cap) := H.rv
  have hb := H.old b (hr.Rv b rfl).1
  exact ⟨Stp.setCells (fun _ => (hr.Rv b rfl).1) _ _ H.stp, hr.setB H.xk H.fit.1 H.fit.2.1 H.fit.2.2, by rw [heap_setCells_other (fun e => by omega)]; exact H.box, by rw [heap_setCells_other (fun e => by omega)]; exact H.res, H.xk, H.fit, H.old⟩
end
set_option maxRecDepth 100000 in
set_option maxHeartbeats 1600000 in
theorem rput_old {w : World} {h F : Nat} {X : List Ent} {R : Nat → Prop} (H0 : RA w h F X R) (hR : ∀ k, R k → k < w.heap.size) (t c : Int) (bs : List Int) (d : Bool) (ht : i64 t) (hc : i64 c) (h56 : bs.length = 56) (hB : AllB bs) {k : Nat} {x : Ent} (hp : posL X t = some k) (hx : X[k]? = some x) :
    Calls Try.prog 17 #[.pointer (some ⟨h, 0, none⟩), .int .i64 t, .agg (blkA c bs), .bool d] w fun e w' => e = .returned (ansW zW false) ∧ RA w' h F ((⟨x.1.t, c, bs⟩, x.2 || d) :: X.eraseIdx k) (New R w w') ∧ Stp R w w' := by
  have hsa := size_alloc' w (.cells (blkA c bs) 32)
  have hb1 : Below w.heap.size w (w.alloc (.cells (blkA c bs) 32)) := (Below.refl _ _).alloc (Nat.le_refl _) _
  have hb2 : Below w.heap.size w ((w.alloc (.cells (blkA c bs) 32)).alloc (.cells (wrA zW) 36)) := hb1.alloc (by rw [hsa]; omega) _
  obtain ⟨v, H1⟩ := H0
  obtain ⟨A, cap, rfl, hc1, hc2, hA⟩ := H1.val
  obtain ⟨b, rfl⟩ := hA k x hx
  have h51 := H1.len
  have hkn := (List.getElem?_eq_some_iff.1 hx).1
  have HJ0 : Hid (JP3 w h F b X.length cap k X R x c bs false ((w.alloc (.cells (blkA c bs) 32)).alloc (.cells (wrA zW) 36))) :=
    ⟨(Stp.refl R w).ofBelow hb2, H1.below hb2, heap_alloc_old' _ _ (heap_alloc_new w _), by rw [← hsa]; exact heap_alloc_new _ _, hx, ⟨hc, h56, hB⟩, hR⟩
  have HPL : Hid (placeI X t = k) := by unfold Hid placeI; rw [hp]
  have HRL := Lib.hid hR
  have hbz := zW_len
  clear H1 hA hb1 hb2 hx hp hR hB
  obtain ⟨n, hn⟩ : ∃ n, X.length = n := ⟨_, rfl⟩
  rw [hn] at HJ0 hc1 hkn h51
  have HN := Lib.hid hn
  clear hn
  generalize hBv : blkA c bs = B at *
  go_enter Try.func17, Try.ntmps17
  go_upto_region 1 with (first
    | (refine wpList_allocW rfl rfl ?_))
  try rw [hsa]
  clear hsa
  generalize ((w.alloc (.cells B 32)).alloc (.cells (wrA zW) 36)) = W1 at *
  subst hBv
  have HPC := Lib.hid (rplace_any HJ0.out.rv t ht)
  rw [show placeI (if false = true then X.set k (⟨x.1.t, c, bs⟩, x.2) else X) t = k from HPL.out] at HPC
  go_wp2_with fail
  refine HPC.out.mono ?_
  rintro e w' ⟨rfl, rfl⟩
  have hk0 : (0 : Int) ≤ k := by omega
  have hki : (k : Int) < n := by omega
  have hJ0 : JP3 w h F b n cap k X R x c bs false W1.drew := ⟨HJ0.out.stp.drew 1, HJ0.out.rv.drew 1, HJ0.out.box, HJ0.out.res, HJ0.out.xk, HJ0.out.fit, HJ0.out.old⟩
  clear HPC HPL HJ0
  go_upto_region 3 with fail
  refine wp_region_rgk (VP3 h b n cap k c bs x.2 d) (fun L W => JP3 w h F b n cap k X R x c bs (L 24) W) (fun _ _ _ => True) (by kernel_rfl) (by kernel_rfl) (fun i j v' w' w'' _ _ hv _ => hv) hJ0 ?_
  clear hJ0
  simp only [RAll]
  refine ⟨?_, ?_, ?_, ?_, ?_, ?_, ?_, ?_, ?_, ?_, ?_, ?_, ?_, ?_, ?_, ?_, ?_, ?_, ?_, ?_, ?_, ?_, ?_, ?_, ?_, ?_, ?_, ?_⟩
  · refine RStepK.of rfl fun T W L hag hL hJ hLs hd => ?_   -- 0: 17 := Op.move (Operand.tmp 0)
    have e0 : T.getD 0 undef = _ := (agree_at hag 0 (by kernel_rfl)).trans rfl
    clear hag hd
    go_simp
    exact ⟨_, rfl, rfl⟩
  · refine RStepK.of rfl fun T W L hag hL hJ hLs hd => ?_   -- 1: 18 := Op.nilCheck (Operand.tmp 17)
    have d17 : T.getD 17 undef = _ := hd ⟨0, .data⟩ (by simp) rfl _ rfl
    clear hag hd
    go_simp
    exact ⟨_, rfl, rfl⟩
  · refine RStepK.of rfl fun T W L hag hL hJ hLs hd => ?_   -- 2: 19 := Op.fieldAddr 44 (Operand.tmp 18) 1
    have d18 : T.getD 18 undef = _ := hd ⟨1, .data⟩ (by simp) rfl _ rfl
    clear hag hd
    go_simp
    exact ⟨_, rfl, rfl⟩
  · refine RStepK.of rfl fun T W L hag hL hJ hLs hd => ?_   -- 3: 20 := Op.load 42 (Operand.tmp 19)
    have d19 : T.getD 19 undef = _ := hd ⟨2, .data⟩ (by simp) rfl _ rfl
    have fct0 := hJ.c1
    clear hag hd
    go_simp
    exact ⟨_, rfl, rfl⟩
  · refine RStepK.of rfl fun T W L hag hL hJ hLs hd => ?_   -- 4: 21 := Op.move (Operand.tmp 10)
    have e10 : T.getD 10 undef = _ := (agree_at hag 10 (by kernel_rfl)).trans rfl
    clear hag hd
    go_simp
    exact ⟨_, rfl, rfl⟩
  · refine RStepK.of rfl fun T W L hag hL hJ hLs hd => ?_   -- 5: 22 := Op.move (Operand.tmp 0)
    have e0 : T.getD 0 undef = _ := (agree_at hag 0 (by kernel_rfl)).trans rfl
    clear hag hd
    go_simp
    exact ⟨_, rfl, rfl⟩
  · refine RStepK.of rfl fun T W L hag hL hJ hLs hd => ?_   -- 6: 23 := Op.nilCheck (Operand.tmp 22)
    have d22 : T.getD 22 undef = _ := hd ⟨5, .data⟩ (by simp) rfl _ rfl
    clear hag hd
    go_simp
    exact ⟨_, rfl, rfl⟩
  · refine RStepK.of rfl fun T W L hag hL hJ hLs hd => ?_   -- 7: 24 := Op.fieldAddr 44 (Operand.tmp 23) 1
    have d23 : T.getD 23 undef = _ := hd ⟨6, .data⟩ (by simp) rfl _ rfl
    clear hag hd
    go_simp
    exact ⟨_, rfl, rfl⟩
  · refine RStepK.of rfl fun T W L hag hL hJ hLs hd => ?_   -- 8: 25 := Op.load 42 (Operand.tmp 24)
    have d24 : T.getD 24 undef = _ := hd ⟨7, .data⟩ (by simp) rfl _ rfl
    have fct0 := hJ.c1
    clear hag hd
    go_simp
    exact ⟨_, rfl, rfl⟩
  · refine RStepK.of rfl fun T W L hag hL hJ hLs hd => ?_   -- 9: 26 := Op.move (Operand.tmp 10)
    have e10 : T.getD 10 undef = _ := (agree_at hag 10 (by kernel_rfl)).trans rfl
    clear hag hd
    go_simp
    exact ⟨_, rfl, rfl⟩
  · refine RStepK.of rfl fun T W L hag hL hJ hLs hd => ?_   -- 10: 27 := Op.load 32 (Operand.tmp 6)
    have e6 : T.getD 6 undef = _ := (agree_at hag 6 (by kernel_rfl)).trans rfl
    have e6 : T.getD 6 undef = _ := (agree_at hag 6 (by kernel_rfl)).trans rfl
    clear hag hd
    exact wp_load_row 32 (.tmp 6) rfl w.heap.size e6 _ _ _ _ hJ.box Try.underlying32 rfl (by rw [blkA_size h56]; exact size24b) ⟨_, rfl, rfl, hJ, trivial⟩
  · refine RStepK.of rfl fun T W L hag hL hJ hLs hd => ?_   -- 11: 28 := Op.move (Operand.tmp 0)
    have e0 : T.getD 0 undef = _ := (agree_at hag 0 (by kernel_rfl)).trans rfl
    clear hag hd
    go_simp
    exact ⟨_, rfl, rfl⟩
  · refine RStepK.of rfl fun T W L hag hL hJ hLs hd => ?_   -- 12: 29 := Op.nilCheck (Operand.tmp 28)
    have d28 : T.getD 28 undef = _ := hd ⟨11, .data⟩ (by simp) rfl _ rfl
    clear hag hd
    go_simp
    exact ⟨_, rfl, rfl⟩
  · refine RStepK.of rfl fun T W L hag hL hJ hLs hd => ?_   -- 13: 30 := Op.fieldAddr 44 (Operand.tmp 29) 1
    have d29 : T.getD 29 undef = _ := hd ⟨12, .data⟩ (by simp) rfl _ rfl
    clear hag hd
    go_simp
    exact ⟨_, rfl, rfl⟩
  · refine RStepK.of rfl fun T W L hag hL hJ hLs hd => ?_   -- 14: 31 := Op.load 42 (Operand.tmp 30)
    have d30 : T.getD 30 undef = _ := hd ⟨13, .data⟩ (by simp) rfl _ rfl
    have fct0 := hJ.c1
    clear hag hd
    go_simp
    exact ⟨_, rfl, rfl⟩
  · refine RStepK.of rfl fun T W L hag hL hJ hLs hd => ?_   -- 15: 32 := Op.move (Operand.tmp 10)
    have e10 : T.getD 10 undef = _ := (agree_at hag 10 (by kernel_rfl)).trans rfl
    clear hag hd
    go_simp
    exact ⟨_, rfl, rfl⟩
  · refine RStepK.of rfl fun T W L hag hL hJ hLs hd => ?_   -- 16: 33 := Op.indexAddr 42 (Operand.tmp 31) (Operand.tmp 32)
    have d31 : T.getD 31 undef = _ := hd ⟨14, .data⟩ (by simp) rfl _ rfl
    have d32 : T.getD 32 undef = _ := hd ⟨15, .data⟩ (by simp) rfl _ rfl
    clear hag hd
    go_simp
    exact ⟨_, rfl, rfl⟩
  · refine RStepK.of rfl fun T W L hag hL hJ hLs hd => ?_   -- 17: 34 := Op.fieldAddr 64 (Operand.tmp 33) 2
    have d33 : T.getD 33 undef = _ := hd ⟨16, .data⟩ (by simp) rfl _ rfl
    clear hag hd
    go_simp
    exact ⟨_, rfl, rfl⟩
  · refine RStepK.of rfl fun T W L hag hL hJ hLs hd => ?_   -- 18: 35 := Op.load 4 (Operand.tmp 34)
    have d34 : T.getD 34 undef = _ := hd ⟨17, .data⟩ (by simp) rfl _ rfl
    have fct0 := hJ.c58
    clear hag hd
    go_simp
    exact ⟨_, rfl, rfl⟩
  · refine RStepK.of rfl fun T W L hag hL hJ hLs hd => ?_   -- 19: 36 := Op.move (Operand.tmp 35)
    have d35 : T.getD 35 undef = _ := hd ⟨18, .data⟩ (by simp) rfl _ rfl
    clear hag hd
    go_simp
    exact ⟨_, rfl, rfl⟩
  · cases hq : x.2   -- 20
    · refine RStepK.want rfl rfl rfl (by kernel_rfl) (fun v w hv => hv) fun T W L hag hL hJ hLs hd => ?_
      have e3 : T.getD 3 undef = _ := (agree_at hag 3 (by kernel_rfl)).trans rfl
      clear hag hd
      go_simp
      exact ⟨_, rfl, fun _ => rfl⟩
    · exact RStepK.skip rfl rfl rfl (by kernel_rfl) (fun v w hv => hv) (fun W hq' => by cases hq') (fun L W hJ => hJ)
  · refine RStepK.of rfl fun T W L hag hL hJ hLs hd => ?_   -- 21
    have d36 : T.getD 36 undef = _ := hd ⟨19, .data⟩ (by simp) rfl _ rfl
    have x37 : x.2 = false → T.getD 37 undef = .bool d := hd ⟨20, .data⟩ (by simp) rfl _ rfl
    clear hag hd
    cases hq : x.2
    · have x38 := x37 hq
      rw [hq] at d36
      clear x37
      go_simp
      exact ⟨_, rfl, rfl⟩
    · rw [hq] at d36
      clear x37
      go_simp
      exact ⟨_, rfl, rfl⟩
  · refine RStepK.of rfl fun T W L hag hL hJ hLs hd => ?_   -- 22: 39 := Op.indexAddr 42 (Operand.tmp 20) (Operand.tmp 21)
    have d20 : T.getD 20 undef = _ := hd ⟨3, .data⟩ (by simp) rfl _ rfl
    have d21 : T.getD 21 undef = _ := hd ⟨4, .data⟩ (by simp) rfl _ rfl
    clear hag hd
    go_simp
    exact ⟨_, rfl, rfl⟩
  · refine RStepK.of rfl fun T W L hag hL hJ hLs hd => ?_   -- 23: 40 := Op.fieldAddr 64 (Operand.tmp 39) 1
    have d39 : T.getD 39 undef = _ := hd ⟨22, .data⟩ (by simp) rfl _ rfl
    clear hag hd
    go_simp
    exact ⟨_, rfl, rfl⟩
  · refine RStepK.of rfl fun T W L hag hL hJ hLs hd => ?_   -- 24: None := Op.store 32 (Operand.tmp 40) (Operand.tmp 27)
    have d40 : T.getD 40 undef = _ := hd ⟨23, .data⟩ (by simp) rfl _ rfl
    have d27 : T.getD 27 undef = _ := hd ⟨10, .data⟩ (by simp) rfl _ rfl
    clear hag hd
    refine wp_store_mid 32 (.tmp 40) (.tmp 27) rfl b (k * 59 + 1) (blkA c bs) d40 d27 (by rw [blkA_size h56]; exact hJ.there) (by rw [blkA_size h56]; exact size24b) (blkA_one _ _) ?_
    rw [blkA_list]
    exact ⟨_, rfl, trivial, hJ.stored hL, trivial⟩
  · refine RStepK.of rfl fun T W L hag hL hJ hLs hd => ?_   -- 25: 41 := Op.indexAddr 42 (Operand.tmp 25) (Operand.tmp 26)
    have d25 : T.getD 25 undef = _ := hd ⟨8, .data⟩ (by simp) rfl _ rfl
    have d26 : T.getD 26 undef = _ := hd ⟨9, .data⟩ (by simp) rfl _ rfl
    clear hag hd
    go_simp
    exact ⟨_, rfl, rfl⟩
  · refine RStepK.of rfl fun T W L hag hL hJ hLs hd => ?_   -- 26: 42 := Op.fieldAddr 64 (Operand.tmp 41) 2
    have d41 : T.getD 41 undef = _ := hd ⟨25, .data⟩ (by simp) rfl _ rfl
    clear hag hd
    go_simp
    exact ⟨_, rfl, rfl⟩
  · refine RLastK.of rfl fun T W2 L hag hLs hL hJ hd => ?_
    have d42 : T.getD 42 undef = _ := hd 26 _ (by simp) rfl
    have d38 : T.getD 38 undef = _ := hd 21 _ (by simp) rfl
    obtain ⟨f, hf, hT⟩ := agree_fn hag
    have h42 := (hf 42).trans d42
    have h38 := (hf 38).trans d38
    rw [hLs 24 (by decide)] at hJ
    have HJ := Lib.hid hJ
    clear hag hd d42 d38 hJ hf hLs hL
    rw [hT]
    clear hT
    simp only [List.pop_toArray, List.dropLast_cons_cons, List.dropLast_singleton, List.filterMap_cons, List.filterMap_nil, List.foldl_cons, List.foldl_nil, List.setIfInBounds_toArray, List.set_cons_succ, List.set_cons_zero, h42, h38]
    have hrv : RV W2 h F (X.set k (⟨x.1.t, c, bs⟩, x.2)) R (.slice (some ⟨b, 0, none⟩) n cap) := HJ.out.rv
    have hxk : (X.set k ((⟨x.1.t, c, bs⟩ : Wr), x.2))[k]? = some (⟨x.1.t, c, bs⟩, x.2) := List.getElem?_set_self (by rw [HN.out]; exact hkn)
    have e58 := hrv.cell58 hxk
    have f58 := hrv.ffree (k * 59 + 58)
    have h3 := hrv.setD hxk (x.2 || d)
    rw [List.set_set] at h3
    have HS3 : Hid (Stp R w (W2.setCell ⟨b, k * 59 + 58, none⟩ (.bool (x.2 || d)))) := HJ.out.stp.setCell (fun _ => (hrv.Rv b rfl).1) _
    have HM3 : Hid ((W2.setCell ⟨b, k * 59 + 58, none⟩ (.bool (x.2 || d))).heap[w.heap.size + 1]? = some (.cells (wrA zW) 36 (0, 0))) := by
      unfold Hid; rw [heap_setCell_other _ _ _ _ (fun e => by have e' : w.heap.size + 1 = b := e; have := HRL.out b (hrv.Rv b rfl).1; omega)]; exact HJ.out.res
    have HX3 : Hid ((X.set k ((⟨x.1.t, c, bs⟩ : Wr), (x.2 || d)))[k]? = some (⟨x.1.t, c, bs⟩, (x.2 || d))) := List.getElem?_set_self (by rw [HN.out]; exact hkn)
    have H3 := Lib.hid h3
    clear hrv hxk h3 HJ
    go_upto_region 4 with fail
    clear e58 f58
    generalize W2.setCell ⟨b, k * 59 + 58, none⟩ (.bool (x.2 || d)) = W3 at *
    have HFC := Lib.hid (rfront_any ⟨_, H3.out⟩ (fun y hy => Nat.lt_of_lt_of_le (HRL.out y hy) HS3.out.size) HX3.out)
    rw [eraseIdx_set] at HFC
    go_wp2_with fail
    refine HFC.out.mono ?_
    rintro e W4 ⟨rfl, h4, hs4⟩
    have H4 := Lib.hid h4
    have HS4 : Hid (Stp R w W4) := HS3.out.trans hs4 (fun _ _ h => h)
    have HM4 : Hid (W4.heap[w.heap.size + 1]? = some (.cells (wrA zW) 36 (0, 0))) := hs4.heap HM3.out (fun e => by have := HRL.out _ e; omega)
    have HNN : Hid (¬ New R W3 W4 (w.heap.size + 1)) := fun e => e.elim (fun e => by have := HRL.out _ e; omega) (fun e => by have := room_lt HM3.out; omega)
    clear h4 hs4 HM3 HFC
    go_wp2_with (first
      | (refine wpList_buildWZ rfl rfl ?_)
      | (refine wpList_storeW rfl (.tmp 8) (.tmp 46) rfl (w.heap.size + 1) rfl zW zW rfl hbz hbz HM4.out ?_))
    (try simp only [Exit.jump])
    refine bodyPost_ret (results_wr rfl _ _ (w.heap.size + 1) zW rfl hbz (setRow_heap _ _ _ _ _ _ HM4.out)) rfl ?_
    exact ⟨rfl, (H4.out.row _ HNN.out).mono (fun _ hk => New.wider HS3.out.size (by rw [size_setRow]; exact Nat.le_refl _) hk), HS4.out.row (by omega) _⟩
end Go.Proofs.Ytbcnjilhibkcnaa
