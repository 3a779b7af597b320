/- Contract: block.Open. -/
import Derived.Test.YtincamgdaienlaaBd
import Derived.Deep.DeepCutAuto
import Derived.StillTailTactics
namespace Go.Proofs.Ytincamgdaienlaa
open Go.ChangeShapes Go.WideShapes Go.ChangeAt Go.RowKit
set_option linter.unusedVariables false
def opK (xs : List Int) : Int := xs.getD 0 0
def opBs (xs : List Int) : List Int := (xs.drop 4).take 56
def Opens (l t : Int) (xs : List Int) : Prop := xs.length = 64 ∧ MayB (opK xs) t ∧ sealB l (opK xs) t.toNat (opBs xs) = xs
instance (l t : Int) (xs : List Int) : Decidable (Opens l t xs) := by unfold Opens; infer_instance
def openA (l t : Int) (xs : List Int) : Array Value := if Opens l t xs then blkA (opK xs) (opBs xs) else blkA 0 zBs
theorem opBs_len {xs : List Int} (h : xs.length = 64) : (opBs xs).length = 56 := by unfold opBs; simp [h]
theorem opBs_allB {xs : List Int} (h : AllB xs) : AllB (opBs xs) := fun x hx => h x (List.mem_of_mem_drop (List.mem_of_mem_take hx))
theorem setRow_blk {w : World} {g : Nat} {C D : Array Value} {t : TypeId} {fr : Nat × Nat} (h : w.heap[g]? = some (.cells C t fr)) : (w.setRow g D).heap[g]? = some (.cells D t fr) := setRow_heap w g C D t fr h
theorem below_setRow {B g : Nat} {w W : World} (h : Below B w W) (hg : B ≤ g) (D : Array Value) : Below B w (W.setRow g D) :=
  ⟨h.os, h.tape, h.output, by simpa using h.size, fun k hk => by rw [setRow_other W g k D (by omega)]; exact h.block k hk⟩
theorem blkA_set0 (x k : Int) (bs : List Int) : (blkA k bs).setIfInBounds 0 (.int .i64 x) = blkA x bs := by unfold blkA blkL; simp
set_option maxRecDepth 100000 in
set_option maxHeartbeats 3200000 in
theorem open_any (l t : Int) (A : Option Addr) (xs : List Int) (c : Nat) (w : World) (hl : 0 ≤ l ∧ l ≤ 255) (ht : i64 t) (hc : xs.length ≤ c) (hc2 : c ≤ 9223372036854775807) (hB : AllB xs) (hy : Byt w A xs) :
    Calls Try.prog 10 #[.int .u8 l, .int .i64 t, .slice A xs.length c] w fun e w' => e = .returned (.tuple #[.agg (openA l t xs), .bool (decide (Opens l t xs))]) ∧ Below w.heap.size w w' := by
  have HY := Lib.hid hy
  have HB := Lib.hid hB
  have hm0 := heap_alloc_new w (Obj.cells (blkA 0 zBs) 24)
  have hbel0 : Below w.heap.size w (w.alloc (Obj.cells (blkA 0 zBs) 24)) := (Below.refl _ _).alloc (Nat.le_refl _) _
  have hsz0 := size_alloc' w (Obj.cells (blkA 0 zBs) 24)
  clear hy hB
  generalize hn : xs.length = n at *
  have HN := Lib.hid hn
  clear hn
  go_enter Try.func10, Try.ntmps10
  go_wp2_with (first
    | (refine wpList_allocB rfl rfl ?_))
  generalize w.alloc (Obj.cells (blkA 0 zBs) 24) = W1 at *
  have HM0 := Lib.hid hm0
  have hszW : W1.heap.size = w.heap.size + 1 := hsz0
  have HY1 := Lib.hid (HY.out.keep hbel0)
  clear hm0
  refine wp_scope1e (fun a' w' => Hid (Below w.heap.size w w' ∧ w'.heap[w.heap.size]? = some (.cells (blkA 0 zBs) 24 (0, 0)) ∧ ¬ Opens l t xs) ∧ ∃ u0 u1 u2 u3 u4 u5 u7 u8 u9 u10 u11 u12 u13 u14 u15 u16 u17 u18 u19 u20 u21 u22 u23 u24 u25 u26 u27 u28 u29 u30 u31 u32 u33 u34 u35 u36 u37 u38 : Value, a' = { tmps := #[u0, u1, u2, u3, u4, u5, .pointer (some ⟨w.heap.size, 0, none⟩), u7, u8, u9, u10, u11, u12, u13, u14, u15, u16, u17, u18, u19, u20, u21, u22, u23, u24, u25, u26, u27, u28, u29, u30, u31, u32, u33, u34, u35, u36, u37, u38], defers := [] }) (fun _ _ => 0) rfl ?_ ?_
  · intro _
    have HM2 := Lib.hid (heap_alloc_new W1 (Obj.cells (blkA 0 zBs) 24))
    have HM02 : Hid ((W1.alloc (Obj.cells (blkA 0 zBs) 24)).heap[w.heap.size]? = some (.cells (blkA 0 zBs) 24 (0, 0))) := by
      unfold Hid; rw [heap_alloc_old W1 _ (by omega)]; exact HM0.out
    have HBL2 := Lib.hid (hbel0.alloc hbel0.size (Obj.cells (blkA 0 zBs) 24))
    by_cases h64 : n = 64
    · subst h64
      obtain ⟨x0, hx0⟩ : ∃ x0, xs[0]? = some x0 := ⟨_, List.getElem?_eq_getElem (by rw [HN.out]; omega)⟩
      obtain ⟨ad, rfl, hc0⟩ := (HY1.out.alloc (Obj.cells (blkA 0 zBs) 24)) 0 x0 hx0
      have ea : ad.add 0 = ad := by unfold Addr.add; simp
      rw [ea] at hc0
      have hxb := HB.out x0 (List.mem_of_getElem? hx0)
      have hk : opK xs = x0 := by unfold opK; rw [List.getD, hx0]; rfl
      have HKX := Lib.hid hk
      have cz := blk_kind HM2.out (blkA_list 0 zBs)
      have fz : (W1.alloc (Obj.cells (blkA 0 zBs) 24)).frozen? ⟨W1.heap.size, 0, none⟩ = false := blk_free HM2.out 0
      clear hx0 ea hk
      go_wp2_with (first
        | (refine wpList_allocB rfl rfl ?_))
      rw [blkA_set0, ← hszW]
      have HM3 := Lib.hid (heap_alloc_new W1 (Obj.cells (blkA x0 zBs) 24))
      have HM03 : Hid ((W1.alloc (Obj.cells (blkA x0 zBs) 24)).heap[w.heap.size]? = some (.cells (blkA 0 zBs) 24 (0, 0))) := by
        unfold Hid; rw [heap_alloc_old W1 _ (by omega)]; exact HM0.out
      have HBL3 := Lib.hid (hbel0.alloc hbel0.size (Obj.cells (blkA x0 zBs) 24))
      have HY3 := Lib.hid (HY1.out.alloc (Obj.cells (blkA x0 zBs) 24))
      rw [hszW] at HM3
      clear HM2 HM02 HBL2 cz fz hc0 hbel0 hszW
      generalize W1.alloc (Obj.cells (blkA x0 zBs) 24) = W2 at *
      go_still_tail 4, (by kernel_rfl)
      change wpList _ _ _ _ _ W2.drew
      rw [if_neg (show ¬ c = 4 by omega)]
      have HM3' : Hid (W2.drew.heap[w.heap.size + 1]? = some (.cells (blkA x0 zBs) 24 (0, 0))) := HM3
      have HM03' : Hid (W2.drew.heap[w.heap.size]? = some (.cells (blkA 0 zBs) 24 (0, 0))) := HM03
      have HBL3' : Hid (Below w.heap.size w W2.drew) := HBL3.out.drew
      have HY3' : Hid (Byt W2.drew (some ⟨ad.block, ad.off + 4, none⟩) (opBs xs)) := fun i x hi => by
        unfold opBs at hi
        have hi2 : xs[4 + i]? = some x := by
          rw [List.getElem?_take] at hi
          split at hi
          · rwa [List.getElem?_drop] at hi
          · cases hi
        obtain ⟨ad', e, h⟩ := HY3.out _ _ hi2
        injection e with e; subst e
        refine ⟨_, rfl, ?_⟩
        rw [add_off]
        rw [show 4 + i = (3 + i) + 1 by omega, add_sum] at h
        rw [show ad.off + 4 + i = ad.off + (3 + i + 1) by omega]
        exact h
      clear HM3 HM03 HBL3 HY3
      generalize W2.drew = W3 at *
      have HM4 := Lib.hid (setRow_blk (D := blkA x0 (opBs xs)) HM3'.out)
      have HM04 : Hid ((W3.setRow (w.heap.size + 1) (blkA x0 (opBs xs))).heap[w.heap.size]? = some (.cells (blkA 0 zBs) 24 (0, 0))) := by
        unfold Hid; rw [setRow_other W3 _ _ _ (by omega)]; exact HM03'.out
      have HBL4 := Lib.hid (below_setRow HBL3'.out (show w.heap.size ≤ w.heap.size + 1 by omega) (blkA x0 (opBs xs)))
      have HY4 := Lib.hid (HY.out.keep HBL4.out)
      have h56 := opBs_len HN.out
      have H56 := Lib.hid h56
      refine wpList_copyB rfl (.tmp 20) (.tmp 22) rfl (w.heap.size + 1) x0 zBs (opBs xs) rfl HM3'.out zBs_len ⟨ad.block, ad.off + 4, none⟩ 60 (c - 4) rfl (by omega) h56 HY3'.out ?_
      generalize W3.setRow (w.heap.size + 1) (blkA x0 (opBs xs)) = W4 at *
      clear HM3' HM03' HBL3' HY3'
      go_wp2_with (first
        | (refine wpList_loadB rfl (.tmp 8) rfl (w.heap.size + 1) rfl x0 (opBs xs) H56.out HM4.out ?_))
      by_cases hmay : MayB x0 t
      · obtain ⟨m, rfl⟩ : ∃ m : Nat, t = (m : Int) := ⟨t.toNat, by unfold MayB at hmay; omega⟩
        refine (seal_yes l x0 m _ (opBs xs) W4 hl hmay.1 (by unfold MayB at hmay; omega) (blkA_list _ _) H56.out (opBs_allB HB.out)).mono ?_
        rintro e W5 ⟨v5, rfl, own5, hb5⟩
        obtain ⟨A5, d5, rfl, hle5, hd5, hy5⟩ := byt_own own5 (sealB_length H56.out)
        rw [sealB_length H56.out]
        have HE := Lib.hid (equal_any A5 (some ad) (sealB l x0 m (opBs xs)) xs 64 64 d5 c W5 (sealB_length H56.out) HN.out (sealB_allB hl hmay.1 (opBs_allB HB.out)) HB.out hy5 (HY4.out.keep hb5))
        have HM5 : Hid (W5.heap[w.heap.size + 1]? = some (.cells (blkA x0 (opBs xs)) 24 (0, 0))) := by
          unfold Hid; rw [hb5.block _ (room_lt HM4.out)]; exact HM4.out
        have HM05 : Hid (W5.heap[w.heap.size]? = some (.cells (blkA 0 zBs) 24 (0, 0))) := by
          unfold Hid; rw [hb5.block _ (room_lt HM04.out)]; exact HM04.out
        have HBL5 := Lib.hid (keepB HBL4.out hb5)
        have HMAY := Lib.hid hmay
        clear own5 hy5 hb5 hmay
        go_wp2_with fail
        refine HE.out.mono ?_
        rintro e W6 ⟨rfl, rfl⟩
        by_cases hq : sealB l x0 m (opBs xs) = xs
        · have hop : Opens l m xs := ⟨HN.out, by rw [HKX.out]; exact HMAY.out, by rw [HKX.out, Int.toNat_natCast]; exact hq⟩
          rw [decide_eq_true hq]
          have HOP := Lib.hid hop
          clear hop hq HE
          go_wp2_with (first
            | (refine wpList_loadB rfl (.tmp 8) rfl (w.heap.size + 1) rfl x0 (opBs xs) H56.out HM5.out ?_)
            | (refine wpList_storeB rfl (.tmp 6) (.tmp 37) rfl w.heap.size rfl x0 0 (opBs xs) zBs rfl H56.out zBs_len HM05.out ?_))
          simp only [Exit.jump]
          refine bodyPost_ret (results_blk rfl _ _ w.heap.size x0 (opBs xs) rfl H56.out (setRow_blk HM05.out)) rfl ?_
          refine ⟨?_, below_setRow HBL5.out (Nat.le_refl _) _⟩
          unfold openA
          rw [if_pos HOP.out, decide_eq_true HOP.out, HKX.out]
          rfl
        · have HQ := Lib.hid hq
          rw [decide_eq_false hq]
          clear hq HE
          go_wp2_with fail
          go_step3
          refine ⟨rfl, ⟨HBL5.out, HM05.out, fun h => HQ.out ?_⟩, _, _, _, _, _, _, _, _, _, _, _, _, _, _, _, _, _, _, _, _, _, _, _, _, _, _, _, _, _, _, _, _, _, _, _, _, _, _, rfl⟩
          have h3 := h.2.2
          rw [HKX.out, Int.toNat_natCast] at h3
          exact h3
      · refine (seal_no l x0 t _ (opBs xs) W4 hl (by constructor <;> omega) ht (blkA_list _ _) hmay).mono ?_
        rintro e W5 ⟨rfl, hb5⟩
        have HM05 : Hid (W5.heap[w.heap.size]? = some (.cells (blkA 0 zBs) 24 (0, 0))) := by
          unfold Hid; rw [hb5.block _ (room_lt HM04.out)]; exact HM04.out
        have HBL5 := Lib.hid (keepB HBL4.out hb5)
        have HMAY := Lib.hid hmay
        clear hb5 hmay
        go_wp2_with fail
        go_step3
        refine ⟨rfl, ⟨HBL5.out, HM05.out, fun h => HMAY.out ?_⟩, _, _, _, _, _, _, _, _, _, _, _, _, _, _, _, _, _, _, _, _, _, _, _, _, _, _, _, _, _, _, _, _, _, _, _, _, _, _, rfl⟩
        have h3 := h.2.1
        rw [HKX.out] at h3
        exact h3
    · go_wp2_with (first
        | (refine wpList_allocB rfl rfl ?_))
      go_step3
      refine ⟨rfl, ⟨HBL2.out, HM02.out, fun h => h64 (HN.out.symm.trans h.1)⟩, _, _, _, _, _, _, _, _, _, _, _, _, _, _, _, _, _, _, _, _, _, _, _, _, _, _, _, _, _, _, _, _, _, _, _, _, _, _, rfl⟩
  · rintro a' W ⟨HH, u0, u1, u2, u3, u4, u5, u7, u8, u9, u10, u11, u12, u13, u14, u15, u16, u17, u18, u19, u20, u21, u22, u23, u24, u25, u26, u27, u28, u29, u30, u31, u32, u33, u34, u35, u36, u37, u38, rfl⟩
    have hblk := HH.out.2.1
    go_wp2_with (first
      | (refine wpList_buildB0 rfl rfl ?_)
      | (refine wpList_storeB rfl (.tmp 6) (.tmp 38) rfl w.heap.size rfl 0 0 zBs zBs rfl zBs_len zBs_len hblk ?_))
    simp only [Exit.jump]
    refine bodyPost_ret (results_blk rfl _ _ w.heap.size 0 zBs rfl zBs_len (setRow_blk hblk)) rfl ?_
    refine ⟨?_, below_setRow HH.out.1 (Nat.le_refl _) _⟩
    unfold openA
    rw [if_neg HH.out.2.2, decide_eq_false HH.out.2.2]
    rfl
end Go.Proofs.Ytincamgdaienlaa
