/- A vol beside its device; what lay makes of its blocks. -/
import Derived.Test.YtamnpblijdgdaaaNg
namespace Go.Proofs.Ytamnpblijdgdaaa
open Go.ChangeShapes Go.WideShapes Go.ChangeAt Go.RowKit
set_option linter.unusedVariables false
set_option maxRecDepth 100000
/-- A vol beside its device: both among protected blocks, and newer than w0. -/
structure SV (w0 W : World) (P : Nat → Prop) (q : Nat) (m : DM) (hp rb : Nat) (v : VM) : Prop where
  ds : DS w0 W P q m
  at_ : VolAt W q hp rb v
  ph : P hp
  pr : P rb
  lh : w0.heap.size ≤ hp
  lr : w0.heap.size ≤ rb
  ne : hp ≠ rb
/-- What is protected beside a vol. -/
def Rst (P : Nat → Prop) (hp rb : Nat) : Nat → Prop := fun k => P k ∧ k ≠ hp ∧ k ≠ rb
theorem DS.own {w0 W W' : World} {P G : Nat → Prop} {q : Nat} {m : DM} (h : DS w0 W P q m) (ht : Touch G W W') (hG : ∀ k, G k → P k ∧ w0.heap.size ≤ k) : DS w0 W' P q m := by
  obtain ⟨F, h1, h2, h3⟩ := h.dev
  obtain ⟨O, L, g1, g2, g3⟩ := h1
  exact ⟨⟨F, Dev.touch ⟨O, L, g1, g2, g3⟩ ht (fun k hf hg => h3 k (hG k hg).1 hf), h2, h3⟩, fun k hk => Nat.lt_of_lt_of_le (h.low k hk) ht.size, h.bel.trans (ht.below h.bel.size fun k hk => (hG k hk).2)⟩
section
variable {w0 W W' : World} {P : Nat → Prop} {q : Nat} {m m' : DM} {hp rb : Nat} {v v' : VM}
theorem SV.step (h : SV w0 W P q m hp rb v) (hd : DS w0 W' P q m') (hs : Same P W W') : SV w0 W' P q m' hp rb v :=
  { h with ds := hd, at_ := h.at_.keep (hs.blk _ h.ph) (hs.blk _ h.pr) }
theorem SV.own (h : SV w0 W P q m hp rb v) (ht : Touch (fun k => k = hp ∨ k = rb) W W') (hv : VolAt W' q hp rb v') : SV w0 W' P q m hp rb v' ∧ Same (Rst P hp rb) W W' :=
  ⟨{ h with ds := h.ds.own ht (fun k hk => by rcases hk with rfl | rfl; exact ⟨h.ph, h.lh⟩; exact ⟨h.pr, h.lr⟩), at_ := hv },
    ⟨fun k hk => ht.block k (h.ds.low k hk.1) (fun hg => by rcases hg with rfl | rfl; exact hk.2.1 rfl; exact hk.2.2 rfl), ht.size⟩⟩
theorem SV.below (h : SV w0 W P q m hp rb v) (hb : Below W.heap.size W W') : SV w0 W' P q m hp rb v :=
  h.step (h.ds.below hb fun k hk => Or.inl hk) (h.ds.same hb)
theorem SV.same (h : SV w0 W P q m hp rb v) (hb : Below W.heap.size W W') : Same P W W' := h.ds.same hb
theorem SV.grow (h : SV w0 W P q m hp rb v) (hb : Below W.heap.size W W') {Q : Nat → Prop} (hQ : ∀ k, Q k → W.heap.size ≤ k ∧ k < W'.heap.size) : SV w0 W' (fun k => P k ∨ Q k) q m hp rb v :=
  { h with ds := h.ds.below hb (fun k hk => hk.imp id (hQ k)), at_ := h.at_.below hb, ph := Or.inl h.ph, pr := Or.inl h.pr }
theorem SV.mono (h : SV w0 W P q m hp rb v) {P' : Nat → Prop} (hP : ∀ k, P' k → P k) (h1 : P' hp) (h2 : P' rb) : SV w0 W P' q m hp rb v :=
  { h with ds := h.ds.mono hP, ph := h1, pr := h2 }
theorem Same.rst {P : Nat → Prop} (h : Same P W W') : Same (Rst P hp rb) W W' := h.mono fun k hk => hk.1
end
/-- The blocks' row behind a store of a whole one. -/
theorem VolAt.setH {W : World} {q hp rb : Nat} {v : VM} (h : VolAt W q hp rb v) (hne : hp ≠ rb) {i : Nat} {x y : HB} (hi : v.B[i]? = some x) (hy : y.Ok) : VolAt (W.setCells rb (i * 58) (hbL y)) q hp rb { v with B := v.B.set i y } := by
  have hx := h.ok x (List.mem_of_getElem? hi)
  have hl : (rowL hbL v.B).length = v.n * 58 := by rw [rowL_length h.ok.fits, h.len]
  have hlt := (List.getElem?_eq_some_iff.1 hi).1
  have hmul : (i + 1) * 58 ≤ v.n * 58 := Nat.mul_le_mul_right _ (by rw [← h.len]; exact hlt)
  refine { h with len := by rw [List.length_set]; exact h.len, ok := h.ok.set hy, hd := ?_, row := ?_ }
  · rw [heap_setCells_other hne]; exact h.hd
  · rw [heap_setCells (hbL y) (i * 58) _ W h.row (by rw [List.size_toArray, hl, hbL_len hy.len]; omega)]
    have := rowL_splice (k := i) (x := x) (y := y) (j := 0) (cs := hbL y) h.ok.fits hi (by rw [hbL_len hy.len]; omega) (by rw [splice_whole _ _ (by rw [hbL_len hx.len, hbL_len hy.len])])
    rw [Nat.add_zero] at this
    rw [List.toList_toArray, this]
theorem SV.setH {w0 W : World} {P : Nat → Prop} {q : Nat} {m : DM} {hp rb : Nat} {v : VM} (h : SV w0 W P q m hp rb v) {i : Nat} {x y : HB} (hi : v.B[i]? = some x) (hy : y.Ok) :
    SV w0 (W.setCells rb (i * 58) (hbL y)) P q m hp rb { v with B := v.B.set i y } ∧ Same (Rst P hp rb) W (W.setCells rb (i * 58) (hbL y)) :=
  h.own ((Touch.refl _ _).setCells (F := fun k => k = hp ∨ k = rb) (Or.inr rfl) _ _) (h.at_.setH h.ne hi hy)
/-- Writes lie behind a slice, in blocks of R. -/
def WrsR (W : World) (R : Nat → Prop) (A : Option Addr) (l : List Wr) : Prop := ∀ i x, l[i]? = some x → ∃ a, A = some a ∧ WrAt W (a.add (i * 58)) x ∧ R a.block
theorem WrsR.wrs {W : World} {R : Nat → Prop} {A : Option Addr} {l : List Wr} (h : WrsR W R A l) : Wrs W A l := fun i x hi => let ⟨a, e, h1, _⟩ := h i x hi; ⟨a, e, h1⟩
theorem WrsR.same {W W' : World} {R : Nat → Prop} {A : Option Addr} {l : List Wr} (h : WrsR W R A l) (hs : Same R W W') : WrsR W' R A l := fun i x hi => by
  obtain ⟨a, e, h1, h2⟩ := h i x hi
  refine ⟨a, e, fun j v hj => ?_, h2⟩
  have h3 := h1 j v hj
  rw [World.cell?_of_block (hs.blk _ (by rw [block_of_add', block_of_add']; exact h2))]
  exact h3
theorem WrsR.mono {W : World} {R R' : Nat → Prop} {A : Option Addr} {l : List Wr} (h : WrsR W R A l) (hR : ∀ k, R k → R' k) : WrsR W R' A l := fun i x hi => let ⟨a, e, h1, h2⟩ := h i x hi; ⟨a, e, h1, hR _ h2⟩
/-- The blocks behind some writes. -/
def layB (B : List HB) : List Wr → List HB
  | [] => B
  | x :: l => layB (if 0 ≤ x.t ∧ x.t < B.length then B.set x.t.toNat ⟨x.k, x.bs, true⟩ else B) l
theorem layB_append (B : List HB) : ∀ l m, layB B (l ++ m) = layB (layB B l) m := by
  intro l
  induction l generalizing B with
  | nil => intro m; rfl
  | cons x l ih => intro m; exact ih _ m
theorem layB_length : ∀ (l : List Wr) (B : List HB), (layB B l).length = B.length
  | [], _ => rfl
  | x :: l, B => by
    show (layB _ l).length = _
    rw [layB_length l]
    split
    · simp
    · rfl
def KindsOk (l : List Wr) : Prop := ∀ x ∈ l, 0 ≤ x.k ∧ x.k ≤ 7
theorem layB_ok : ∀ {l : List Wr} {B : List HB}, WrsOk l → KindsOk l → HBsOk B → HBsOk (layB B l)
  | [], _, _, _, h => h
  | x :: l, B, hw, hk, h => by
    refine layB_ok (l := l) (fun y hy => hw y (by simp [hy])) (fun y hy => hk y (by simp [hy])) ?_
    have hx := hw x (by simp)
    split
    · exact h.set ⟨hk x (by simp), hx.len, hx.b⟩
    · exact h
theorem info95 : (Try.prog.info? 95).map (fun i => (i.zero, i.size, i.bytes)) = some (some (.agg (hbL ⟨0, zBs, false⟩).toArray), 58, 72) := by kernel_rfl
theorem size95 : (Try.prog.info? 95).map (·.size) = some 58 := by kernel_rfl
theorem built95 (k : Int) (bs : List Int) (b : Bool) (hb : bs.length = 56) : Try.prog.built 95 [(0, .agg (blkA k bs)), (1, .bool b)] = some (hbL ⟨k, bs, b⟩).toArray := by
  have hS : Try.prog.underlying 95 = some (.struct (Try.prog.fieldsOf 95)) := by kernel_rfl
  obtain ⟨i0, hi, hz0, hz1, hz2⟩ := info_parts info95
  have hpl : (Try.prog.fieldsOf 95).toList.mapM (fun f => (Try.prog.info? f.type).map fun i => (f.offset, i.size)) = some [(0, 57), (57, 1)] := by kernel_rfl
  have hzl : (hbL ⟨0, zBs, false⟩).length = 58 := hbL_len zBs_len
  have hl : (blkL k bs).length = 57 := blkL_len hb
  have hs1 : splice (hbL ⟨0, zBs, false⟩) 0 (blkL k bs) = blkL k bs ++ [.bool false] := by
    unfold splice hbL
    rw [hl, List.drop_append, List.drop_of_length_le (by rw [blkL_len zBs_len]; omega), blkL_len zBs_len]
    simp
  have hs2 : splice (blkL k bs ++ [Value.bool false]) 57 [.bool b] = hbL ⟨k, bs, b⟩ := by
    unfold splice hbL
    rw [List.take_append, hl, List.take_of_length_le (by omega), List.drop_of_length_le (by simp [hl])]
    simp
  unfold Program.built
  rw [hi, hS]
  dsimp only
  rw [hz0, hpl]
  dsimp only
  rw [fill_cons (off := 0) (size := 57) rfl (by show (blkA k bs).size = 57; exact blkA_size hb) (by show 0 + 57 ≤ (hbL ⟨0, zBs, false⟩).toArray.size; rw [List.size_toArray, hzl]; decide)]
  rw [fill_cons (off := 57) (size := 1) rfl rfl (by
    simp only [List.size_toArray]
    show 57 + 1 ≤ (splice (hbL ⟨0, zBs, false⟩).toArray.toList 0 (blkA k bs).toList).length
    rw [blkA_list, List.toList_toArray, hs1]; simp [hl])]
  unfold Instr.fill
  congr 1
  show (splice (splice (hbL ⟨0, zBs, false⟩).toArray.toList 0 (blkA k bs).toList).toArray.toList 57 [Value.bool b]).toArray = _
  rw [blkA_list, List.toList_toArray, hs1, hs2]
end Go.Proofs.Ytamnpblijdgdaaa
