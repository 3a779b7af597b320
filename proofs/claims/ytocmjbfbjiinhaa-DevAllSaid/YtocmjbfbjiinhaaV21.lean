/- Contract: Trace. -/
import Derived.Test.YtocmjbfbjiinhaaV20
namespace Go.Proofs.Ytocmjbfbjiinhaa
open Go.ChangeShapes Go.WideShapes Go.ChangeAt Go.RowKit
set_option linter.unusedVariables false
def traceL (m : DM) (r : Nat) : List (List Int) := (m.done.filter (fun x => x.r == r)).map traceB
theorem filt_next (l : List Wr) (r : Nat) : ∀ n k, l.length - k = n → k ≤ l.length → (l.take (nextI l r k)).filter (fun x => x.r == r) = (l.take k).filter (fun x => x.r == r) := by
  intro n
  induction n with
  | zero =>
    intro k h1 h2
    obtain rfl : k = l.length := by omega
    rw [nextI_end]
  | succ n ih =>
    intro k h1 h2
    have hlt : k < l.length := by omega
    have hx : l[k]? = some l[k] := List.getElem?_eq_getElem hlt
    by_cases e : l[k].r = r
    · rw [nextI_here hx e]
    · rw [nextI_on hx e, ih (k + 1) (by omega) (by omega), take_snoc' hx, List.filter_append]
      have : (l[k].r == r) = false := by simpa using e
      simp [this]
theorem RowAt.apart {w : World} {O1 O2 : Nat → Prop} {E1 E2 : TypeId} {s1 s2 n1 n2 : Nat} {v1 v2 : Value} {x1 x2 : List Value} (h1 : RowAt w O1 E1 s1 v1 n1 x1) (h2 : RowAt w O2 E2 s2 v2 n2 x2) (hE : E1 ≠ E2) {g : Nat} (hg : v1.ownBlock = some g) : v2.ownBlock ≠ some g := by
  intro hg2
  rcases h1.1.2 with ⟨rfl, _⟩ | ⟨a, _, c1, rfl, _, hc1, _⟩
  · cases hg
  · rcases h2.1.2 with ⟨rfl, _⟩ | ⟨b, _, c2, rfl, _, hc2, _⟩
    · cases hg2
    · injection hg with hg; injection hg2 with hg2
      dsimp only at hg hg2
      subst hg; subst hg2
      rw [hc1] at hc2
      injection hc2 with hc2; injection hc2 with _ e
      exact hE e
theorem infoBytes : (Try.prog.info? 31).map (fun i => (i.zero, i.size, i.bytes)) = some (some (.slice none 0 0), 1, 24) := by kernel_rfl
/-- Texts of one's own. -/
def TxtOwn (w : World) (B : Nat) (v : Value) (ts : List (List Int)) : Prop := RowsAt w (fun k => B ≤ k) (fun _ k => B ≤ k) 31 5 1 Bs v ts
/-- One text more. -/
theorem TxtOwn.push {w w2 w3 : World} {B : Nat} {v v' u : Value} {ts : List (List Int)} {t : List Int} {vs : List Value} (hb2 : B ≤ w2.heap.size)
    (h1 : RowAt w2 (fun k => B ≤ k) 31 1 v ts.length vs) (h2 : ∀ (r : Nat) (row : List Int), ts[r]? = some row → ∃ u, vs[r]? = some u ∧ RowAt w2 (fun k => B ≤ k) 5 1 u row.length (Bs row)) (hu : RowAt w2 (fun k => B ≤ k) 5 1 u t.length (Bs t))
    (h3 : RowAt w3 (fun k => (fun k => B ≤ k) k ∨ (w2.alloc (.cells #[u] 31)).heap.size ≤ k) 31 1 v' (ts.length + 1) (vs ++ [u])) (hg : (w2.alloc (.cells #[u] 31)).grownBy w3 v.ownBlock) : TxtOwn w3 B v' (ts ++ [t]) := by
  have hl := h1.len
  have blk : ∀ x, x < w2.heap.size → v.ownBlock ≠ some x → w3.heap[x]? = w2.heap[x]? := fun x hx hne => by
    rw [hg.block x (by simp; omega) (fun e => hne e.symm), Below.heap_alloc w2 _ x hx]
  have kp : ∀ {u : Value} {row : List Int}, RowAt w2 (fun k => B ≤ k) 5 1 u row.length (Bs row) → RowAt w3 (fun k => B ≤ k) 5 1 u row.length (Bs row) := fun {u row} h => by
    refine ⟨⟨h.1.1, ?_⟩, h.2⟩
    rcases h.1.2 with h0 | ⟨g, cap, cur, rfl, q0, q1, q2⟩
    · exact Or.inl h0
    · exact Or.inr ⟨g, cap, cur, rfl, q0, by rw [blk g (room_lt q1) (fun e => h1.apart h (by decide) e rfl)]; exact q1, q2⟩
  refine rowsAt_snoc (vs := vs) (h3.owner fun x _ hx => ?_) (fun r row hr => ?_) (kp hu) (by omega)
  · rcases hx with hx | hx
    · exact hx
    · simp at hx; omega
  · obtain ⟨u', h4, h5⟩ := h2 r row hr
    exact ⟨u', h4, kp h5⟩
set_option maxRecDepth 100000 in
set_option maxHeartbeats 1600000 in
theorem trace_any {w : World} {O : Nat → DRole} {hp : Nat} {L : DLay} {m : DM} (h : DevAt w O hp L m) (r : Nat) (hr : r < m.now.length) (hmax : m.done.length < 1000000) :
    Calls Try.prog 29 #[.pointer (some ⟨hp, 0, none⟩), .int .i64 r] w fun e w' => (∃ v, e = .returned v ∧ TxtOwn w' w.heap.size v (traceL m r)) ∧ Below w.heap.size w w' := by
  have few := h.ok.few
  have hRm := Lib.hid (hasRegion_any h r (by constructor <;> omega))
  have hbt : hasR m r = true := by unfold hasR; simp; omega
  rw [hbt] at hRm
  clear hbt
  obtain ⟨Ad, capd, hvd, hd1, hd2⟩ := h.done.val
  have HH := Lib.hid h
  have HR := Lib.hid hr
  have HVD := Lib.hid hvd
  have hn0 := Lib.hid (next_any h r 0 hr (Nat.zero_le _) (by omega))
  clear h hvd
  generalize hN : m.done.length = N at *
  have HN := Lib.hid hN
  clear hN
  have hle0 := nextI_le (l := m.done) (r := r) (i := 0) (Nat.zero_le _)
  rw [HN.out] at hle0
  have hf0 := filt_next m.done r _ 0 rfl (Nat.zero_le _)
  have HF0 := Lib.hid hf0
  clear hf0
  have hat0 := nextI_at (l := m.done) (r := r) (i := 0)
  rw [HN.out] at hat0
  have HAT := Lib.hid hat0
  clear hat0
  generalize hk0 : nextI m.done r 0 = k0 at *
  clear hk0
  go_enter Try.func29, Try.ntmps29
  go_wp2_with fail
  refine hRm.out.mono ?_
  rintro e w' ⟨rfl, rfl⟩
  go_wp2_with fail
  refine hn0.out.mono ?_
  rintro e w' ⟨rfl, rfl⟩
  go_wp2_with fail
  go_loopw [5, 6] (fun v i wr => ∃ k : Nat, i = .int .i64 k ∧ k ≤ N ∧ Hid (k < N → ∃ x, m.done[k]? = some x ∧ x.r = r) ∧ TxtOwn wr w.heap.size v (((m.done.take k).filter (fun x => x.r == r)).map traceB) ∧ Below w.heap.size w wr) (fun _ i _ => N - (intOf i).toNat)
  case atStart =>
    refine ⟨k0, rfl, by omega, HAT.out, ?_, Below.refl _ _⟩
    rw [HF0.out]
    exact RowsAt.nil _ _ _ _ _ _ _
  case round =>
    obtain ⟨k, rfl, hk, HX, ht, hb⟩ := hrel
    have HB := Lib.hid hb
    have hd := HH.out.below hb
    have c2 := hd.c2
    rw [HVD.out] at c2
    have HD := Lib.hid hd
    clear hb hd
    by_cases hlt : k < N
    · obtain ⟨x, hx, hxr⟩ := HX.out hlt
      obtain ⟨g, cap', hv, _, _, _, _, _, er⟩ := HD.out.doneAt (i := k) (x := x) hx
      have hv2 := HVD.out
      rw [hv, HN.out] at hv2
      injection hv2 with e1 e2 e3
      subst e1; subst e3
      have hxi := HD.out.ok.done_r (x := x) (List.mem_of_getElem? hx)
      have hxb := (HD.out.ok.dones x (List.mem_of_getElem? hx)).2
      have HER := Lib.hid er
      have HXX := Lib.hid (And.intro hx hxr)
      have HT := Lib.hid ht
      obtain ⟨vs, t1, t2⟩ := ht
      obtain ⟨i0, hi0, hz0, hz1, hz2⟩ := info_parts infoBytes
      have HI := Lib.hid (And.intro hi0 (And.intro hz0 (And.intro hz1 hz2)))
      have hfl : (((m.done.take k).filter (fun x => x.r == r)).map traceB).length ≤ N := by
        rw [List.length_map]; have := List.length_filter_le (fun x : Wr => x.r == r) (m.done.take k); have h2 : (m.done.take k).length ≤ k := List.length_take_le _ _; omega
      generalize hfg : ((m.done.take k).filter (fun x => x.r == r)).map traceB = ts at *
      have HFG := Lib.hid hfg
      obtain ⟨A5, c5, rfl, _, _⟩ := t1.val
      have HT1 := Lib.hid t1
      have HT2 := Lib.hid t2
      have hkk : (k : Int) < N := by omega
      have htr := Lib.hid (fun W => traced_any x W hxi.2 hxb)
      clear hv e2 hx hxr er t1 t2 hi0 hz0 hz1 hz2 hfg hxb hxi
      generalize hlen : ts.length = tl at *
      have HLEN := Lib.hid hlen
      clear hlen
      go_wp2_with (with_reducible refine wpList_load_mid rfl 75 (.tmp 32) rfl g (k * 65) rfl x.cs _ HER.out Try.underlying75 rfl (by rw [Wr.cs_length (HD.out.ok.blk x (List.mem_of_getElem? HXX.out.1))]; exact size75) ?_)
      refine (htr.out _).mono ?_
      rintro e w2 ⟨⟨u, rfl, hu⟩, hb2⟩
      obtain ⟨A6, c6, rfl, _, _⟩ := hu.val
      have HU := Lib.hid hu
      have HB2 := Lib.hid hb2
      have hs2 := hb2.size
      generalize hul : (traceB x).length = ul at *
      have HUL := Lib.hid hul
      clear hu hb2 hul
      go_wp2_with (at_builtin; refine wpList_push_of rfl (.tmp 26) (.tmp 35) 32 rfl 31 i0 _ 1 24 Try.underlying32 HI.out.1 HI.out.2.1 HI.out.2.2.1 HI.out.2.2.2 rfl (by decide) (.slice A5 tl c5) tl vs rfl _ ((HT1.out.below HB2.out).below ((Below.refl _ _).alloc (Nat.le_refl _) _)) ⟨w2.heap.size, 0, none⟩ 1 1 [.slice A6 ul c6] rfl rfl (World.news_of_block (heap_alloc_new w2 _)) (fun u hu => by rw [List.mem_singleton.1 hu]; rfl) (by simp only [maxLen]; omega) (by omega) ?_; intro v' w3 hrow3 hgr3 _; have HR3 := Lib.hid hrow3; have HG3 := Lib.hid hgr3; clear hrow3 hgr3)
      have hbw : w.heap.size ≤ w2.heap.size := by have := HB.out.size; omega
      have hb3 : Below w.heap.size w w3 := (keepB HB.out HB2.out).trans (((Below.refl _ _).alloc hbw _).grown HG3.out (by simp; omega) (fun y hy => HT1.out.2 y hy))
      have hpush : TxtOwn w3 w.heap.size v' (ts ++ [traceB x]) := by
        refine TxtOwn.push (w := w) (w2 := w2) (v := .slice A5 tl c5) (u := .slice A6 ul c6) hbw (by rw [HLEN.out]; exact HT1.out.below HB2.out) (fun q row hq => ?_) (by rw [HUL.out]; exact HU.out.owner fun y _ hy => Nat.le_trans HB.out.size hy) (by rw [HLEN.out]; exact HR3.out) HG3.out
        obtain ⟨u', h4, h5⟩ := HT2.out q row hq
        exact ⟨u', h4, h5.below HB2.out⟩
      have HP := Lib.hid hpush
      have HB3 := Lib.hid hb3
      have hnx := Lib.hid (next_any (HH.out.below hb3) r (k + 1) HR.out (by rw [HN.out]; omega) (by rw [HN.out]; omega))
      have hat := nextI_at (l := m.done) (r := r) (i := k + 1)
      have hle := nextI_le (l := m.done) (r := r) (i := k + 1) (by rw [HN.out]; omega)
      have hfn := filt_next m.done r _ (k + 1) rfl (by rw [HN.out]; omega)
      rw [HN.out] at hat hle
      have HAT2 := Lib.hid hat
      have HFN := Lib.hid hfn
      clear hpush hb3 hat hfn
      generalize hk1 : nextI m.done r (k + 1) = k1 at *
      clear hk1
      go_wp2_with fail
      refine hnx.out.mono ?_
      rintro e w' ⟨rfl, rfl⟩
      go_wp2
      go_roundw
      case rel =>
        refine ⟨k1, rfl, by omega, HAT2.out, ?_, HB3.out⟩
        rw [HFN.out, take_snoc' HXX.out.1, List.filter_append, List.map_append, HFG.out]
        have : (x.r == r) = true := by simpa using HXX.out.2
        simp only [List.filter_cons, this, if_true, List.filter_nil, List.map_cons, List.map_nil]
        exact HP.out
      case measure => simp [intOf]; omega
    · obtain rfl : k = N := by omega
      rw [List.take_of_length_le (by rw [HN.out]; exact Nat.le_refl _)] at ht
      have HT := Lib.hid ht
      obtain ⟨vs, t1, t2⟩ := ht
      obtain ⟨A5, c5, e5, _, _⟩ := t1.val
      generalize (List.map traceB (m.done.filter fun x => x.r == r)).length = tl at e5
      subst e5
      clear t1 t2
      have hge : ¬ ((k : Int) < k) := by omega
      go_wp2
      go_ret
      exact ⟨⟨_, rfl, HT.out⟩, HB.out⟩
theorem trace_no {w : World} {O : Nat → DRole} {hp : Nat} {L : DLay} {m : DM} (h : DevAt w O hp L m) (r : Int) (hr : i64 r) (hb : hasR m r = false) :
    Calls Try.prog 29 #[.pointer (some ⟨hp, 0, none⟩), .int .i64 r] w fun e w' => e = .returned (.slice none 0 0) ∧ w = w' := by
  have hB := Lib.hid (hasRegion_any h r hr)
  rw [hb] at hB
  clear h hb
  go_enter Try.func29, Try.ntmps29
  go_wp2_with fail
  refine hB.out.mono ?_
  rintro e w' ⟨rfl, rfl⟩
  go_wp2
  go_ret
  exact ⟨rfl, rfl⟩
theorem trace_nil (w : World) (r : Int) : Calls Try.prog 29 #[.pointer none, .int .i64 r] w fun e w' => e = .returned (.slice none 0 0) ∧ w = w' := by
  go_enter Try.func29, Try.ntmps29
  go_wp2_with fail
  refine (hasRegion_nil _ _).mono ?_
  rintro e w' ⟨rfl, rfl⟩
  go_wp2
  go_ret
  exact ⟨rfl, rfl⟩
end Go.Proofs.Ytocmjbfbjiinhaa
