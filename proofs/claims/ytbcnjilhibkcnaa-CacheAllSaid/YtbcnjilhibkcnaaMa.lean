/- The document's cache in memory: rows of entries; contracts: clathriref4's NewCache, place, Peek. -/
import Derived.Test.YtbcnjilhibkcnaaKw
namespace Go.Proofs.Ytbcnjilhibkcnaa
open Go.ChangeShapes Go.WideShapes Go.ChangeAt Go.RowKit
set_option linter.unusedVariables false
def enE (x : Ent) : List Value := wrL x.1 ++ [.bool x.2]
def enA (x : Ent) : Array Value := (enE x).toArray
theorem enE_length {x : Ent} (h : x.1.bs.length = 56) : (enE x).length = 59 := by unfold enE; simp [wrL_length h]
theorem enA_size {x : Ent} (h : x.1.bs.length = 56) : (enA x).size = 59 := by unfold enA; simp [enE_length h]
theorem enE_one (x : Ent) : ∀ v ∈ enE x, v.oneCell' = true := by
  intro v hv
  unfold enE at hv
  rcases List.mem_append.1 hv with h | h
  · exact wrL_one x.1 v h
  · simp at h; subst h; rfl
theorem enA_one (x : Ent) : (enA x).all (·.oneCell') = true := Array.all_eq_true_iff_forall_mem.2 fun v hv => enE_one x v (by unfold enA at hv; simpa using hv)
theorem enE_t (x : Ent) : (enE x)[0]? = some (.int .i64 x.1.t) := rfl
theorem enE_d {x : Ent} (h : x.1.bs.length = 56) : (enE x)[58]? = some (.bool x.2) := by
  unfold enE; rw [List.getElem?_append_right (by rw [wrL_length h]; omega), wrL_length h]; rfl
theorem enE_b {x : Ent} (h : x.1.bs.length = 56) : ((enE x).drop 1).take 57 = blkL x.1.k x.1.bs := by
  unfold enE wrL
  show (blkL x.1.k x.1.bs ++ [Value.bool x.2]).take 57 = _
  rw [List.take_append_of_le_length (by rw [blkL_length' h]; omega), List.take_of_length_le (by rw [blkL_length' h]; omega)]
theorem enE_set {x : Ent} (h : x.1.bs.length = 56) (d : Bool) : enE (x.1, d) = (enE x).set 58 (.bool d) := by
  unfold enE; rw [List.set_append_right _ _ (by rw [wrL_length h]; omega), wrL_length h]; rfl
theorem enE_put {x : Ent} (h : x.1.bs.length = 56) (k : Int) {bs : List Int} (hb : bs.length = 56) : enE (⟨x.1.t, k, bs⟩, x.2) = splice (enE x) 1 (blkL k bs) := by
  unfold enE wrL splice
  rw [blkL_length' hb]
  show _ = _ ++ (_ ++ (blkL x.1.k x.1.bs ++ [Value.bool x.2]).drop 57)
  rw [List.drop_append_of_le_length (by rw [blkL_length' h]; omega), List.drop_of_length_le (by rw [blkL_length' h]; omega)]
  rfl
theorem infoE : (Try.prog.info? 64).map (fun i => (i.zero, i.size, i.bytes)) = some (some (.agg (wrL zW ++ [Value.bool false]).toArray), 59, 80) := by kernel_rfl
theorem sizeE : (Try.prog.info? 64).map (·.size) = some 59 := by kernel_rfl
theorem zE_cells : (wrL zW ++ [Value.bool false]).toArray = enA zE := rfl
def EntsOk (L : List Ent) : Prop := ∀ x ∈ L, x.1.Ok
theorem EntsOk.fits {L : List Ent} (h : EntsOk L) : Fits enE 59 L := fun x hx => enE_length (h x hx).len
theorem EntsOk.at {L : List Ent} (h : EntsOk L) {k : Nat} {x : Ent} (hk : L[k]? = some x) : x.1.Ok := h x (List.mem_of_getElem? hk)
/-- The document's cache at h, of F frames, its entries behind the slice v; all in blocks of R. -/
structure RV (w : World) (h F : Nat) (L : List Ent) (R : Nat → Prop) (v : Value) : Prop where
  blk : w.heap[h]? = some (.cells #[.int .i64 F, v] 44 (0, 0))
  own : w.ownsRow 0 64 59 v L.length (rowL enE L)
  Rg : R h
  Rv : ∀ k, v.ownBlock = some k → R k ∧ k ≠ h
  ok : EntsOk L
  few : F ≤ 50
  len : L.length ≤ 51
def RA (w : World) (h F : Nat) (L : List Ent) (R : Nat → Prop) : Prop := ∃ v, RV w h F L R v
section
variable {w w' : World} {h F : Nat} {L : List Ent} {R R' : Nat → Prop} {v : Value}
theorem RV.mono (H : RV w h F L R v) (hR : ∀ k, R k → R' k) : RV w h F L R' v :=
  ⟨H.blk, H.own, hR _ H.Rg, fun k hk => ⟨hR _ (H.Rv k hk).1, (H.Rv k hk).2⟩, H.ok, H.few, H.len⟩
theorem RA.mono (H : RA w h F L R) (hR : ∀ k, R k → R' k) : RA w h F L R' := let ⟨v, H⟩ := H; ⟨v, H.mono hR⟩
theorem RV.kept (H : RV w h F L R v) (hs : Stp R' w w') (hR : ∀ k, R k → ¬ R' k) : RV w' h F L R v :=
  ⟨hs.heap H.blk (hR h H.Rg), hs.own H.own fun k hk => hR k (H.Rv k hk).1, H.Rg, H.Rv, H.ok, H.few, H.len⟩
theorem RA.kept (H : RA w h F L R) (hs : Stp R' w w') (hR : ∀ k, R k → ¬ R' k) : RA w' h F L R := let ⟨v, H⟩ := H; ⟨v, H.kept hs hR⟩
theorem RV.below (H : RV w h F L R v) (hb : Below w.heap.size w w') : RV w' h F L R v := H.kept (Stp.none hb) fun _ _ h => h
theorem RA.below (H : RA w h F L R) (hb : Below w.heap.size w w') : RA w' h F L R := let ⟨v, H⟩ := H; ⟨v, H.below hb⟩
theorem RV.drew (H : RV w h F L R v) (n : Nat) : RV (w.drewN n) h F L R v := ⟨H.blk, H.own, H.Rg, H.Rv, H.ok, H.few, H.len⟩
theorem RV.val (H : RV w h F L R v) : ∃ A cap, v = .slice A L.length cap ∧ L.length ≤ cap ∧ cap ≤ 9223372036854775807 ∧ (∀ (k : Nat) (x : Ent), L[k]? = some x → ∃ b : Nat, A = some ⟨b, 0, none⟩) := by
  rcases H.own.2 with ⟨rfl, h0⟩ | ⟨b, cap, cur, rfl, _, _, hn, hm, _⟩
  · refine ⟨none, 0, by rw [h0], by omega, by omega, fun k f hk => ?_⟩
    rw [List.length_eq_zero_iff.1 h0] at hk; cases hk
  · exact ⟨_, cap, rfl, hn, by simp only [maxLen] at hm; omega, fun _ _ _ => ⟨b, rfl⟩⟩
theorem RV.c0 (H : RV w h F L R v) : w.cell? ⟨h, 0, none⟩ = some (.int .i64 F) := by rw [blk_cell H.blk]; rfl
theorem RV.c1 (H : RV w h F L R v) : w.cell? ⟨h, 1, none⟩ = some v := by rw [blk_cell H.blk]; rfl
theorem RV.free (H : RV w h F L R v) (k : Nat) : w.frozen? ⟨h, k, none⟩ = false := blk_free H.blk k
theorem RV.glt (H : RV w h F L R v) : h < w.heap.size := room_lt H.blk
end
section
variable {w : World} {h F b n cap : Nat} {L : List Ent} {R : Nat → Prop}
theorem RV.own' (H : RV w h F L R (.slice (some ⟨b, 0, none⟩) n cap)) : n = L.length := by
  rcases H.own.2 with ⟨e, _⟩ | ⟨_, _, _, e, _⟩
  · cases e
  · injection e
theorem RV.cell (H : RV w h F L R (.slice (some ⟨b, 0, none⟩) n cap)) {k : Nat} {x : Ent} (hk : L[k]? = some x) {j : Nat} {u : Value} (hj : (enE x)[j]? = some u) : w.cell? ⟨b, k * 59 + j, none⟩ = some u := by
  have e := H.own'; subst e
  exact own_cell H.own (rowL_at H.ok.fits hk hj)
theorem RV.cell0 (H : RV w h F L R (.slice (some ⟨b, 0, none⟩) n cap)) {k : Nat} {x : Ent} (hk : L[k]? = some x) : w.cell? ⟨b, k * 59, none⟩ = some (.int .i64 x.1.t) := H.cell hk (enE_t x)
theorem RV.cell58 (H : RV w h F L R (.slice (some ⟨b, 0, none⟩) n cap)) {k : Nat} {x : Ent} (hk : L[k]? = some x) : w.cell? ⟨b, k * 59 + 58, none⟩ = some (.bool x.2) := H.cell hk (enE_d (H.ok.at hk).len)
theorem RV.ffree (H : RV w h F L R (.slice (some ⟨b, 0, none⟩) n cap)) (k : Nat) : w.frozen? ⟨b, k, none⟩ = false := by
  have e := H.own'; subst e
  exact own_free H.own k
theorem RV.rangeE (H : RV w h F L R (.slice (some ⟨b, 0, none⟩) n cap)) {k : Nat} {x : Ent} (hk : L[k]? = some x) : w.rangeAt b (k * 59) (enE x) := fun j u hj => H.cell hk hj
theorem RV.rangeB (H : RV w h F L R (.slice (some ⟨b, 0, none⟩) n cap)) {k : Nat} {x : Ent} (hk : L[k]? = some x) : w.rangeAt b (k * 59 + 1) (blkL x.1.k x.1.bs) := by
  have e := H.own'; subst e
  have := own_range (o := 1) (c := 57) H.ok.fits H.own hk
  rwa [enE_b (H.ok.at hk).len] at this
theorem RV.thereB (H : RV w h F L R (.slice (some ⟨b, 0, none⟩) n cap)) {k : Nat} (hk : k < L.length) : w.there b (k * 59 + 1) 57 := by
  have e := H.own'; subst e
  exact own_there H.own (by omega)
theorem RV.lt (H : RV w h F L R (.slice (some ⟨b, 0, none⟩) n cap)) : b < w.heap.size := (H.own.lt b rfl).2
theorem RV.setD (H : RV w h F L R (.slice (some ⟨b, 0, none⟩) n cap)) {k : Nat} {x : Ent} (hk : L[k]? = some x) (d : Bool) : RV (w.setCell ⟨b, k * 59 + 58, none⟩ (.bool d)) h F (L.set k (x.1, d)) R (.slice (some ⟨b, 0, none⟩) n cap) := by
  have e := H.own'; subst e
  have hlt := (List.getElem?_eq_some_iff.1 hk).1
  have hb := (H.Rv b rfl).2
  refine ⟨?_, ?_, H.Rg, H.Rv, ?_, H.few, by rw [List.length_set]; exact H.len⟩
  · rw [heap_setCell_other _ _ _ _ (fun e => hb e.symm)]; exact H.blk
  · have := own_set_in H.own (k := k * 59 + 58) (by omega) (.bool d)
    rw [rowL_set H.ok.fits hk (by omega) (enE_set (H.ok.at hk).len d)] at this
    rw [List.length_set]; exact this
  · intro y hy
    rcases List.mem_or_eq_of_mem_set hy with h1 | rfl
    · exact H.ok y h1
    · exact (H.ok.at hk : x.1.Ok)
theorem RV.setB (H : RV w h F L R (.slice (some ⟨b, 0, none⟩) n cap)) {k : Nat} {x : Ent} (hk : L[k]? = some x) {c : Int} {bs : List Int} (hc : i64 c) (h56 : bs.length = 56) (hB : AllB bs) : RV (w.setCells b (k * 59 + 1) (blkL c bs)) h F (L.set k (⟨x.1.t, c, bs⟩, x.2)) R (.slice (some ⟨b, 0, none⟩) n cap) := by
  have e := H.own'; subst e
  have hlt : k < L.length := (List.getElem?_eq_some_iff.1 hk).1
  have hb := (H.Rv b rfl).2
  refine ⟨?_, ?_, H.Rg, H.Rv, ?_, H.few, by rw [List.length_set]; exact H.len⟩
  · rw [heap_setCells_other (fun e => hb e.symm)]; exact H.blk
  · have := own_splice_in H.own (o := k * 59 + 1) (blkL c bs) (by rw [blkL_length' h56]; omega)
    rw [rowL_splice H.ok.fits hk (by rw [blkL_length' h56]; omega) (enE_put (H.ok.at hk).len c h56)] at this
    rw [List.length_set]; exact this
  · intro y hy
    rcases List.mem_or_eq_of_mem_set hy with h1 | rfl
    · exact H.ok y h1
    · exact ⟨(H.ok.at hk).t, hc, h56, hB⟩
end
theorem rnew_any (n : Int) (hn : i64 n) (w : World) :
    Calls Try.prog 9 #[.int .i64 n] w fun e w' => ∃ g R, e = .returned (.pointer (some ⟨g, 0, none⟩)) ∧ RA w' g (moreOf n + 1) [] R ∧ (∀ k, R k → w.heap.size ≤ k ∧ k < w'.heap.size) ∧ Below w.heap.size w w' := by
  have key : RA (w.alloc (.cells #[.int .i64 ((moreOf n + 1 : Nat) : Int), .slice none 0 0] 44)) w.heap.size (moreOf n + 1) [] (fun k => w.heap.size ≤ k ∧ k < (w.alloc (.cells #[.int .i64 ((moreOf n + 1 : Nat) : Int), .slice none 0 0] 44)).heap.size) :=
    ⟨.slice none 0 0, ⟨heap_alloc_new w _, World.ownsRow_nil _ _ _ _, ⟨Nat.le_refl _, by rw [size_alloc']; omega⟩, fun k hk => (by cases hk), fun x hx => (by cases hx), by have := moreOf_le n; omega, Nat.zero_le _⟩⟩
  have KEY := Lib.hid key
  have hb : Below w.heap.size w (w.alloc (.cells #[.int .i64 ((moreOf n + 1 : Nat) : Int), .slice none 0 0] 44)) := (Below.refl _ _).alloc (Nat.le_refl _) _
  have HB := Lib.hid hb
  clear key hb
  have hm : ((moreOf n + 1 : Nat) : Int) = min (max n 1) 50 := by unfold moreOf; omega
  rw [hm] at KEY HB
  clear hm
  go_enter Try.func9, Try.ntmps9
  go_wp2
  go_ret
  exact ⟨_, _, rfl, KEY.out, fun k hk => hk, HB.out⟩
/-- Where it is, as the document tells it. -/
def placeI (L : List Ent) (t : Int) : Int := match posL L t with
  | none => -1
  | some k => k
theorem posL_first {L : List Ent} {t : Int} {k : Nat} {x : Ent} (hk : L[k]? = some x) (ht : x.1.t = t) (h : ∀ (j : Nat) (f : Ent), j < k → L[j]? = some f → f.1.t ≠ t) : posL L t = some k := by
  unfold posL
  obtain ⟨hl, e⟩ := List.getElem?_eq_some_iff.1 hk
  rw [List.findIdx?_eq_some_iff_getElem]
  refine ⟨hl, by rw [e]; simpa using ht, fun j hj => ?_⟩
  have := h j _ hj (List.getElem?_eq_getElem (by omega))
  simpa using this
set_option maxRecDepth 100000 in
theorem rplace_any {w : World} {h F : Nat} {L : List Ent} {R : Nat → Prop} {v : Value} (H : RV w h F L R v) (t : Int) (ht : i64 t) :
    Calls Try.prog 24 #[.pointer (some ⟨h, 0, none⟩), .int .i64 t] w fun e w' => e = .returned (.int .i64 (placeI L t)) ∧ w = w' := by
  obtain ⟨A, cap, rfl, hc1, hc2, hA⟩ := H.val
  have c1 := H.c1
  have hl51 := H.len
  have HH := Lib.hid H
  have HA := Lib.hid hA
  generalize hn : L.length = n at *
  have HN := Lib.hid hn
  clear H hA hn
  go_enter Try.func24, Try.ntmps24
  go_wp2
  go_loop [5] (fun i => ∃ k : Nat, k ≤ n ∧ i = .int .i64 k ∧ Hid (∀ (j : Nat) (f : Ent), j < k → L[j]? = some f → f.1.t ≠ t)) (fun i => n - (intOf i).toNat)
  case atStart => exact ⟨0, Nat.zero_le _, rfl, fun j f h => by omega⟩
  case round =>
    obtain ⟨k, hk, rfl, HE⟩ := hrel
    by_cases hlt : k < n
    · have hlt2 : (k : Int) < n := by omega
      obtain ⟨x, hx⟩ : ∃ x, L[k]? = some x := ⟨_, List.getElem?_eq_getElem (by rw [HN.out]; exact hlt)⟩
      obtain ⟨b, rfl⟩ := HA.out k x hx
      have d0 := HH.out.cell0 hx
      have hft := (HH.out.ok.at hx).t
      have HX := Lib.hid hx
      clear hx
      by_cases hxq : x.1.t = t
      · have hq2 : (x.1.t == t) = true := by simp [hxq]
        have HP := Lib.hid (posL_first HX.out hxq HE.out)
        clear hxq
        go_wp2
        go_ret
        exact ⟨by unfold placeI; rw [HP.out]; rfl, rfl⟩
      · have hq2 : (x.1.t == t) = false := by simp [hxq]
        have HQ := Lib.hid hxq
        clear hxq
        go_wp2
        go_round
        case rel => exact ⟨k + 1, hlt, by go_num, fun j f hj hf => by
          by_cases e : j = k
          · subst e
            have h1 := HX.out
            rw [hf] at h1; injection h1 with h1; subst h1
            exact HQ.out
          · exact HE.out j f (by omega) hf⟩
        case measure => simp [intOf]; omega
    · obtain rfl : k = n := by omega
      have hnn : ¬ (k : Int) < k := by omega
      have HP := Lib.hid (posL_none (L := L) (t := t) fun a x hx => HE.out a x (by have := (List.getElem?_eq_some_iff.1 hx).1; rw [HN.out] at this; exact this) hx)
      go_wp2
      go_ret
      exact ⟨by unfold placeI; rw [HP.out]; rfl, rfl⟩
end Go.Proofs.Ytbcnjilhibkcnaa
