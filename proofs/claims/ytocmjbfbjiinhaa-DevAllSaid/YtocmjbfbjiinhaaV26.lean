/- Contract: begun, the opening test. -/
import Derived.Test.YtocmjbfbjiinhaaV25
namespace Go.Proofs.Ytocmjbfbjiinhaa
open Go.ChangeShapes Go.WideShapes Go.ChangeAt Go.RowKit
set_option linter.unusedVariables false
def b7 : List Int := 7 :: List.replicate 63 0
def bg0 : DM := DM.make [2, 1]
def bg1 : DM := bg0.doWrite 1 0 b7
def bg2 : DM := bg1.crash []
def bg3 : DM := bg2.doWrite 0 1 b7
def bg4 : DM := bg3.doBarrier 0
def bg5 : DM := bg4.crash []
theorem b7_ok : BlkOk b7 := ⟨by decide, fun x hx => by
  rcases List.mem_cons.1 hx with rfl | hx
  · omega
  · rw [(List.mem_replicate.1 hx).2]; omega⟩
theorem new_at (W : World) (g : Nat) (zs : List Int) (n : Nat) (hn : zs.length = n) (hm : mayV zs = true) (hI : AllI zs) (t : TypeId) (hb : W.heap[g]? = some (.cells ((zs.map (Value.int .i64)).toArray) t (0, 0))) :
    Calls Try.prog 11 #[.slice (some ⟨g, 0, none⟩) n n] W fun e w' => (∃ q F, e = .returned (.tuple #[.pointer (some ⟨q, 0, none⟩), .bool true]) ∧ Dev w' F q (DM.make zs) ∧ ∀ k, F k → W.heap.size ≤ k) ∧ Below W.heap.size W w' := by
  subst hn
  refine new_yes (some ⟨g, 0, none⟩) zs _ W hI (fun i x hx => ⟨_, rfl, ?_⟩) hm
  rw [Addr.add_mid, Nat.zero_add, blk_cell hb, List.getElem?_toArray, List.getElem?_map, hx]; rfl
/-- Behind New: all that was there is protected. -/
theorem DS.made {w0 W W' : World} {F : Nat → Prop} {q : Nat} {m : DM} (hb0 : Below w0.heap.size w0 W) (h1 : Dev W' F q m) (h2 : ∀ k, F k → W.heap.size ≤ k) (hb : Below W.heap.size W W') : DS w0 W' (fun k => k < W.heap.size) q m := by
  have := hb0.size
  have := hb.size
  exact ⟨⟨F, h1, fun k hk => by have := h2 k hk; omega, fun k hk hf => by have := h2 k hf; omega⟩, fun k hk => by omega, hb0.trans (hb.mono hb0.size)⟩
theorem DS.write64 {w0 W : World} {P : Nat → Prop} {q : Nat} {m : DM} (h : DS w0 W P q m) (r i : Int) (hr : i64 r) (hi : i64 i) (g : Nat) (bs : List Int) (hb : BlkOk bs) (hy : Blk64 W g bs) (hmax : m.done.length ≤ 1000000) :
    Calls Try.prog 21 #[.pointer (some ⟨q, 0, none⟩), .int .i64 r, .int .i64 i, .slice (some ⟨g, 0, none⟩) 64 64] W fun e w' => e = .returned (.bool (hasB m r i)) ∧ DS w0 w' P q (m.doWrite r i bs) ∧ Same P W w' := by
  have := h.write r i hr hi (some ⟨g, 0, none⟩) bs 64 hb.2 hy.byt (by rw [hb.1]; omega) hmax
  rw [hb.1] at this
  have e : okWrite m r i bs = hasB m r i := by unfold okWrite; rw [hb.1]; simp
  rw [e] at this
  exact this
theorem DS.readAt {w0 W : World} {P : Nat → Prop} {q : Nat} {m : DM} (h : DS w0 W P q m) (r i : Int) (hr : i64 r) (hi : i64 i) {b : List Int} (hb : hasB m r i = true) (hg : (m.now.getD r.toNat [])[i.toNat]? = some b) :
    Calls Try.prog 26 #[.pointer (some ⟨q, 0, none⟩), .int .i64 r, .int .i64 i] W fun e w' => (∃ g, e = .returned (.tuple #[.slice (some ⟨g, 0, none⟩) 64 64, .bool true]) ∧ W.heap.size ≤ g ∧ g < w'.heap.size ∧ w'.heap[g]? = some (.cells (Bs b).toArray 73 (0, 0))) ∧ DS w0 w' P q m ∧ Below W.heap.size W w' := by
  refine (h.read r i hr hi).mono ?_
  rintro e w' ⟨⟨v, rfl, ha⟩, hbel⟩
  rcases ha with ⟨h1, _⟩ | ⟨_, g, b', h2, _, rfl, h3, h4⟩
  · rw [hb] at h1; cases h1
  · rw [hg] at h2; injection h2 with h2; subst h2
    exact ⟨⟨g, rfl, h3, room_lt h4, h4⟩, h.below hbel (fun k hk => Or.inl hk), hbel⟩
theorem DS.crash0 {w0 W : World} {P : Nat → Prop} {q : Nat} {m : DM} (h : DS w0 W P q m) (hmax : m.done.length ≤ 1000000) :
    Calls Try.prog 18 #[.pointer (some ⟨q, 0, none⟩), .slice none 0 0] W fun e w' => e = .returned (.tuple #[]) ∧ DS w0 w' P q (m.crash []) ∧ Same P W w' :=
  h.crash none [] 0 (fun F _ _ i bs hi => by cases hi) (by simp) hmax
theorem bg_facts : hasB bg0 1 0 = true ∧ hasB bg1 1 0 = true ∧ (bg1.now.getD 1 [])[0]? = some b7 ∧ hasB bg2 1 0 = true ∧ (bg2.now.getD 1 [])[0]? = some (List.replicate 64 0) ∧ hasB bg2 0 1 = true ∧ hasR bg3 0 = true ∧ hasB bg5 0 1 = true ∧ (bg5.now.getD 0 [])[1]? = some b7 ∧
    bg5.now.length = 2 ∧ (traceL bg5 0).length = 2 ∧ stopped bg5 = false := by decide +kernel
theorem bg_lens : bg0.done.length ≤ 1000000 ∧ bg1.done.length ≤ 1000000 ∧ bg2.done.length ≤ 1000000 ∧ bg3.done.length < 1000000 ∧ bg4.done.length ≤ 1000000 ∧ bg5.done.length < 1000000 := by decide +kernel
set_option maxRecDepth 100000 in
set_option maxHeartbeats 3200000 in
theorem begun_any (w : World) : Calls Try.prog 10 #[] w fun e w' => e = .returned (.bool true) ∧ Below w.heap.size w w' := by
  obtain ⟨i0, hi0, hz0, hz1, hz2⟩ := info_parts info5
  have hmk := fun w : World => run_make (P := Try.prog) w 31 5 i0 _ Try.underlying31 hi0 hz0 .i64 .i64 64 64 (by omega) (by omega) (by rw [hz2]; omega) (by omega)
  generalize hC : madeCells (Value.int .u8 0).cells ((64 : Int).toNat * i0.size) = C0 at hmk
  have hC2 : C0.toList = Bs (List.replicate 64 0) := by
    rw [← hC, hz1]; exact made_u8 64
  have hc0 : C0[0]? = some (.int .u8 0) := by rw [← Array.getElem?_toList, hC2]; rfl
  have HC := Lib.hid hC2
  clear hC hC2 hi0 hz0 hz1 hz2
  go_enter Try.func10, Try.ntmps10
  go_wp2_with fail
  refine (new_at _ w.heap.size [2, 1] 2 rfl (by decide) (fun x hx => by simp at hx; rcases hx with rfl | rfl <;> constructor <;> omega) _ (heap_alloc_new w _)).mono ?_
  rintro e w1 ⟨⟨q, F, rfl, hd, hF⟩, hb⟩
  have hds := DS.made ((Below.refl w.heap.size w).alloc (Nat.le_refl _) _) hd hF hb
  have HD := Lib.hid hds
  clear hd hF hb hds
  go_wp2_with fail
  obtain ⟨f1, f2, f3, f4, f5, f6, f7, f8, f9, f10, f11, f12⟩ := bg_facts
  obtain ⟨l0, l1, l2, l3, l4, l5⟩ := bg_lens
  have F2 := Lib.hid f2
  have F3 := Lib.hid f3
  have F4 := Lib.hid f4
  have F5 := Lib.hid f5
  have F6 := Lib.hid f6
  have F7 := Lib.hid f7
  have F8 := Lib.hid f8
  have F9 := Lib.hid f9
  have F10 := Lib.hid f10
  have F11 := Lib.hid f11
  have F12 := Lib.hid f12
  have hbk : Blk64 (w1.alloc (.cells (C0.setIfInBounds 0 (.int .u8 7)) 5)) w1.heap.size b7 := by
    show _ = _
    rw [heap_alloc_new, ← Array.toArray_toList (xs := C0), HC.out]
    rfl
  have hds : DS w (w1.alloc (.cells (C0.setIfInBounds 0 (.int .u8 7)) 5)) (fun k => k = w1.heap.size) q bg0 := HD.out.below ((Below.refl _ _).alloc (Nat.le_refl _) _) (fun k hk => Or.inr (by simp; omega))
  have hcall := hds.write64 1 0 (by constructor <;> omega) (by constructor <;> omega) w1.heap.size b7 b7_ok hbk l0
  rw [f1] at hcall
  have HCALL := Lib.hid hcall
  have HBK := Lib.hid hbk
  obtain ⟨gb, hgb⟩ : ∃ g, g = w1.heap.size := ⟨_, rfl⟩
  clear hcall hds hbk HD hc0 f1 f2 f3 f4 f5 f6 f7 f8 f9 f10 f11 f12 hmk
  refine HCALL.out.mono ?_
  rintro e w2 ⟨rfl, hd2, hs2⟩
  have HB2 : Hid (Blk64 w2 gb b7) := by show _ = _; rw [hgb, hs2.blk _ rfl]; exact HBK.out
  rw [← hgb] at hd2 hs2 ⊢
  have HD2 : Hid (DS w w2 (fun k => k = gb) q bg1) := hd2
  clear hd2 hs2 HCALL HBK hgb HC
  go_wp2_with fail
  have hc2 := HD2.out.readAt 1 0 (by constructor <;> omega) (by constructor <;> omega) F2.out F3.out
  have HC2 := Lib.hid hc2
  clear hc2
  refine HC2.out.mono ?_
  rintro e w3 ⟨⟨g1, rfl, h1, h2, h3⟩, hd3, hb3⟩
  have HD3 : Hid (DS w w3 (fun k => k = gb ∨ k = g1) q bg1) := HD2.out.below hb3 (fun k hk => by rcases hk with rfl | rfl; exact Or.inl rfl; exact Or.inr ⟨h1, h2⟩)
  have HB3 : Hid (Blk64 w3 gb b7) := (hb3.block gb (room_lt HB2.out)).trans HB2.out
  have HG1 := Lib.hid h3
  clear h1 h2 h3 hd3 hb3 HC2 HB2 HD2
  go_wp2_with fail
  have hc3 := HD3.out.crash0 l1
  have HC3 := Lib.hid hc3
  clear hc3
  refine HC3.out.mono ?_
  rintro e w4 ⟨rfl, hd4, hs4⟩
  have HD4 : Hid (DS w w4 (fun k => k = gb ∨ k = g1) q bg2) := hd4
  have HB4 : Hid (Blk64 w4 gb b7) := (hs4.blk gb (Or.inl rfl)).trans HB3.out
  have HG2 := Lib.hid ((hs4.blk g1 (Or.inr rfl)).trans HG1.out)
  clear hd4 hs4 HC3 HB3 HD3 HG1
  go_wp2_with fail
  have hc4 := HD4.out.readAt 1 0 (by constructor <;> omega) (by constructor <;> omega) F4.out F5.out
  have HC4 := Lib.hid hc4
  clear hc4
  refine HC4.out.mono ?_
  rintro e w5 ⟨⟨g2, rfl, h1, h2, h3⟩, hd5, hb5⟩
  have HD5 : Hid (DS w w5 (fun k => k = gb ∨ k = g1 ∨ k = g2) q bg2) := HD4.out.below hb5 (fun k hk => by rcases hk with rfl | rfl | rfl; exact Or.inl (Or.inl rfl); exact Or.inl (Or.inr rfl); exact Or.inr ⟨h1, h2⟩)
  have HB5 : Hid (Blk64 w5 gb b7) := (hb5.block gb (room_lt HB4.out)).trans HB4.out
  have HG3 := Lib.hid ((hb5.block g1 (room_lt HG2.out)).trans HG2.out)
  have HH3 := Lib.hid h3
  clear h1 h2 h3 hd5 hb5 HC4 HB4 HD4 HG2
  go_wp2_with fail
  have hc5 := HD5.out.write64 0 1 (by constructor <;> omega) (by constructor <;> omega) gb b7 b7_ok HB5.out l2
  have HC5 := Lib.hid hc5
  clear hc5
  refine HC5.out.mono ?_
  rintro e w6 ⟨rfl, hd6, hs6⟩
  have HD6 : Hid (DS w w6 (fun k => k = gb ∨ k = g1 ∨ k = g2) q bg3) := hd6
  have HG4 := Lib.hid ((hs6.blk g1 (by simp)).trans HG3.out)
  have HH4 := Lib.hid ((hs6.blk g2 (by simp)).trans HH3.out)
  clear hd6 hs6 HC5 HB5 HD5 HG3 HH3
  go_wp2_with fail
  have hc6 := HD6.out.barrier 0 (by constructor <;> omega) l3
  rw [F7.out] at hc6
  have HC6 := Lib.hid hc6
  clear hc6
  refine HC6.out.mono ?_
  rintro e w7 ⟨rfl, hd7, hs7⟩
  have HD7 : Hid (DS w w7 (fun k => k = gb ∨ k = g1 ∨ k = g2) q bg4) := hd7
  have HG5 := Lib.hid ((hs7.blk g1 (by simp)).trans HG4.out)
  have HH5 := Lib.hid ((hs7.blk g2 (by simp)).trans HH4.out)
  clear hd7 hs7 HC6 HD6 HG4 HH4
  go_wp2_with fail
  have hc7 := HD7.out.crash0 l4
  have HC7 := Lib.hid hc7
  clear hc7
  refine HC7.out.mono ?_
  rintro e w8 ⟨rfl, hd8, hs8⟩
  have HD8 : Hid (DS w w8 (fun k => k = gb ∨ k = g1 ∨ k = g2) q bg5) := hd8
  have HG6 := Lib.hid ((hs8.blk g1 (by simp)).trans HG5.out)
  have HH6 := Lib.hid ((hs8.blk g2 (by simp)).trans HH5.out)
  clear hd8 hs8 HC7 HD7 HG5 HH5
  go_wp2_with fail
  have hc8 := HD8.out.readAt 0 1 (by constructor <;> omega) (by constructor <;> omega) F8.out F9.out
  have HC8 := Lib.hid hc8
  clear hc8
  refine HC8.out.mono ?_
  rintro e w9 ⟨⟨g3, rfl, h1, h2, h3⟩, hd9, hb9⟩
  have x1 : w9.cell? ⟨g1, 0, none⟩ = some (.int .u8 7) := by rw [blk_cell ((hb9.block g1 (room_lt HG6.out)).trans HG6.out) 0]; rfl
  have x2 : w9.cell? ⟨g2, 0, none⟩ = some (.int .u8 0) := by rw [blk_cell ((hb9.block g2 (room_lt HH6.out)).trans HH6.out) 0]; rfl
  have x3 : w9.cell? ⟨g3, 0, none⟩ = some (.int .u8 7) := by rw [blk_cell h3 0]; rfl
  have HD9 := Lib.hid hd9
  clear h1 h2 h3 hd9 hb9 HC8 HD8 HG6 HH6
  go_wp2_with fail
  have hr := HD9.out.regions
  rw [F10.out] at hr
  have HR := Lib.hid hr
  clear hr
  refine HR.out.mono ?_
  rintro e w' ⟨rfl, rfl⟩
  go_wp2_with fail
  have ht := HD9.out.trace 0 (by rw [F10.out]; omega) l5
  have HT := Lib.hid ht
  clear ht
  refine HT.out.mono ?_
  rintro e w10 ⟨⟨v, rfl, htx⟩, hb10⟩
  obtain ⟨A, cap, hv, _, _⟩ := htx.val
  rw [F11.out] at hv
  subst hv
  have HD10 := Lib.hid (HD9.out.below hb10 (fun k hk => Or.inl hk))
  clear htx hb10 HT HR HD9 x1 x2 x3
  go_wp2_with fail
  have hst := HD10.out.stopped
  rw [F12.out] at hst
  have HST := Lib.hid hst
  clear hst
  refine HST.out.mono ?_
  rintro e w' ⟨rfl, rfl⟩
  go_wp2_with fail
  have hcp := HD10.out.copy (by omega)
  have HCP := Lib.hid hcp
  clear hcp
  refine HCP.out.mono ?_
  rintro e w11 ⟨⟨q', F, rfl, _, _⟩, hb11⟩
  have HBE := Lib.hid (keepB HD10.out.bel hb11)
  clear hb11 HCP HST HD10
  go_wp2
  go_ret
  exact ⟨rfl, HBE.out⟩
end Go.Proofs.Ytocmjbfbjiinhaa
