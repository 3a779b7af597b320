import Derived.Test.YtamnpblijdgdaaaK1
import Derived.Test.YtamnpblijdgdaaaFx
import Derived.Lib.SlBytesConst
import Derived.Test.YtamnpblijdgdaaaK4
import Derived.Test.YtamnpblijdgdaaaJ
import Derived.IntWalk
import Derived.Laws.MakeOwn
import Derived.Deep.Onto
import Derived.Test.YtamnpblijdgdaaaRg
import Derived.Deep.DeepCutAuto
import Derived.Test.YtamnpblijdgdaaaW
import Derived.Laws.CopyRow
import Derived.Laws.ResultCell
import Derived.Laws.Tables
import Derived.Laws.Rows
import Derived.Stop.BytesEq
import Derived.StillTailTactics
import Derived.Laws.BitsAllLaws
/- Contracts: sum.Sum and the functions that it calls. -/
namespace Go.Proofs.Ytamnpblijdgdaaa
open Go.ChangeShapes Go.WideShapes Go.ChangeAt Go.RowKit
open Fx
set_option linter.unusedVariables false
set_option maxRecDepth 100000
/-- The sum that is being made: a, c. -/
def sumStep (s : Nat × Nat) (x : Int) : Nat × Nat := ((s.1 + x.toNat) % 65521, (s.2 + (s.1 + x.toNat) % 65521) % 65521)
def sumAC (bs : List Int) : Nat × Nat := bs.foldl sumStep (1, 0)
def sumV (bs : List Int) : Nat := (sumAC bs).2 * 65536 + (sumAC bs).1
theorem sumStep_lt (s : Nat × Nat) (x : Int) : (sumStep s x).1 < 65521 ∧ (sumStep s x).2 < 65521 := by
  unfold sumStep; exact ⟨Nat.mod_lt _ (by omega), Nat.mod_lt _ (by omega)⟩
theorem sumAC_snoc (bs : List Int) (x : Int) : sumAC (bs ++ [x]) = sumStep (sumAC bs) x := by unfold sumAC; rw [List.foldl_append]; rfl
theorem sumAC_lt (bs : List Int) : (sumAC bs).1 < 65521 ∧ (sumAC bs).2 < 65521 := by
  rcases List.eq_nil_or_concat bs with rfl | ⟨l, x, rfl⟩
  · unfold sumAC; simp
  · rw [List.concat_eq_append, sumAC_snoc]; exact sumStep_lt _ _
theorem sumV_lt (bs : List Int) : sumV bs < 4294967296 := by have := sumAC_lt bs; unfold sumV; omega
theorem fold_any (n : Nat) (h : n < 131042) (w : World) :
    Calls Try.prog 94 #[.float .f64 (fb n)] w fun e w' => e = .returned (.float .f64 (fb (n % 65521))) ∧ w = w' := by
  have g := ge_fb n 65521 (by omega) (by omega)
  rw [fb_mod] at g
  by_cases h1 : 65521 ≤ n
  · have s := fun w : World => run_float_arith (P := Try.prog) w .sub 77 .f64 _ _ _ (sub_fb n 65521 (by omega) h1)
    rw [fb_mod] at s
    have e : n - 65521 = n % 65521 := by omega
    rw [e] at s
    rw [decide_eq_true h1] at g
    clear e h1
    generalize hm : n % 65521 = m at *
    clear hm
    go_enter Try.func94, Try.ntmps94
    go_wp2
    go_ret
    exact ⟨rfl, rfl⟩
  · have e : n % 65521 = n := Nat.mod_eq_of_lt (by omega)
    rw [e]
    rw [decide_eq_false h1] at g
    clear e h1
    go_enter Try.func94, Try.ntmps94
    go_wp2
    go_ret
    exact ⟨rfl, rfl⟩
theorem sadd_any (a c x : Nat) (ha : a < 65521) (hc : c < 65521) (hx : x < 256) (w : World) :
    Calls Try.prog 92 #[.complex .f64 (fb a) (fb c), .int .u8 x] w fun e w' => e = .returned (.complex .f64 (fb ((a + x) % 65521)) (fb ((c + (a + x) % 65521) % 65521))) ∧ w = w' := by
  have s1 : ∀ w : World, (binOp .add 77 (.float .f64 (fb a)) (.float .f64 (floatOfInt .f64 (x : Int)))).run Try.prog w = _ := fun w : World => run_float_arith (P := Try.prog) w .add 77 .f64 _ _ _ (add_fb a x (by omega))
  have f1 := fun w : World => fold_any (a + x) (by omega) w
  generalize hm : (a + x) % 65521 = m at *
  have hm' : m < 65521 := by omega
  have s2 := fun w : World => run_float_arith (P := Try.prog) w .add 77 .f64 _ _ _ (add_fb c m (by omega))
  have f2 := fun w : World => fold_any (c + m) (by omega) w
  generalize hm : (c + m) % 65521 = m2 at *
  clear hm
  generalize hy : a + x = y at *
  clear hy
  have F1 := Lib.hid f1
  have F2 := Lib.hid f2
  clear f1 f2
  go_enter Try.func92, Try.ntmps92
  go_wp2_with fail
  refine (F1.out _).mono ?_; rintro e w' ⟨rfl, rfl⟩
  go_wp2_with fail
  refine (F2.out _).mono ?_; rintro e w' ⟨rfl, rfl⟩
  go_wp2_with fail
  go_ret
  exact ⟨rfl, rfl⟩
theorem sum_any (A : Option Addr) (bs : List Int) (n d : Nat) (w : World) (hn : bs.length = n) (hl : n ≤ 1000000) (hB : AllB bs) (hy : Byt w A bs) :
    Calls Try.prog 81 #[.slice A n d] w fun e w' => e = .returned (.int .u32 (sumV bs)) ∧ w = w' := by
  have HY := Lib.hid hy
  have HN := Lib.hid hn
  have HB := Lib.hid hB
  clear hn hB hy
  go_enter Try.func81, Try.ntmps81
  go_wp2
  go_loop [3, 8] (fun z i => ∃ k : Nat, k ≤ n ∧ i = .int .i64 k ∧ z = .complex .f64 (fb (sumAC (bs.take k)).1) (fb (sumAC (bs.take k)).2)) (fun _ i => n - (intOf i).toNat)
  case atStart => exact ⟨0, Nat.zero_le _, rfl, by rw [show sumAC (bs.take 0) = (1, 0) from rfl, fb_one, fb_zero]⟩
  case round =>
    obtain ⟨k, hk, rfl, rfl⟩ := hrel
    have hlt2 := sumAC_lt (bs.take k)
    by_cases hlt : k < n
    · obtain ⟨x, hx⟩ : ∃ x, bs[k]? = some x := ⟨_, List.getElem?_eq_getElem (by rw [HN.out]; exact hlt)⟩
      obtain ⟨ad, rfl, hc0⟩ := HY.out k x hx
      have hxb := HB.out x (List.mem_of_getElem? hx)
      obtain ⟨y, rfl⟩ : ∃ y : Nat, x = (y : Int) := ⟨x.toNat, by omega⟩
      have hyb : y < 256 := by omega
      have HS : Hid (sumAC (bs.take (k + 1)) = (((sumAC (bs.take k)).1 + y) % 65521, ((sumAC (bs.take k)).2 + ((sumAC (bs.take k)).1 + y) % 65521) % 65521)) := by
        rw [take_snoc' hx, sumAC_snoc]; unfold sumStep; rw [Int.toNat_natCast]; exact rfl
      have HF : Hid (∀ w, _) := fun w : World => sadd_any _ _ y hlt2.1 hlt2.2 hyb w
      clear hx hxb hlt2
      generalize (sumAC (bs.take k)).1 = a at *
      generalize (sumAC (bs.take k)).2 = c at *
      go_wp2_with fail
      refine (HF.out _).mono ?_; rintro e w' ⟨rfl, rfl⟩
      go_wp2_with fail
      go_round
      case rel => exact ⟨k + 1, by omega, by go_num, by rw [HS.out]; simp only [Nat.add_mod_mod]⟩
      case measure => simp [intOf]; omega
    · have e : bs.take k = bs := List.take_of_length_le (by rw [HN.out]; omega)
      rw [e] at hlt2 ⊢
      have v1 := fun w : World => run_convert_float_int w 77 62 .f64 .u32 _ _ (P := Try.prog) (by kernel_rfl) Try.underlying62 (int_fb (sumAC bs).1 (by omega))
      have v2 := fun w : World => run_convert_float_int w 77 62 .f64 .u32 _ _ (P := Try.prog) (by kernel_rfl) Try.underlying62 (int_fb (sumAC bs).2 (by omega))
      have HV : Hid (sumV bs = (sumAC bs).2 * 65536 + (sumAC bs).1) := Lib.hid rfl
      have b1 := hlt2.1
      have b2 := hlt2.2
      clear hlt2 e
      generalize (sumAC bs).1 = a at *
      generalize (sumAC bs).2 = c at *
      have u1 : IntKind.u32.wrap ((c : Int) * 65536) = (c : Int) * 65536 := IntWalk.u32_in _ (by omega)
      have u2 : IntKind.u32.wrap ((c : Int) * 65536 + a) = (c : Int) * 65536 + a := IntWalk.u32_in _ (by omega)
      go_wp2
      go_ret
      exact ⟨ret_int (by rw [HV.out]; omega), rfl⟩
/-- The same, as quiet regions ask for it. -/
theorem sum_q (A : Option Addr) (bs : List Int) (n d : Nat) (w : World) (hn : bs.length = n) (hl : n ≤ 1000000) (hB : AllB bs) (hy : Byt w A bs) :
    Calls Try.prog 81 #[.slice A n d] w fun e w' => e = .returned (.int .u32 (sumV bs)) ∧ w' = w :=
  (sum_any A bs n d w hn hl hB hy).mono fun e w' ⟨he, hw⟩ => ⟨he, hw.symm⟩
end Go.Proofs.Ytamnpblijdgdaaa

/- Contract: the reference's Sum. -/
namespace Go.Proofs.Ytamnpblijdgdaaa
open Go.ChangeShapes Go.WideShapes Go.ChangeAt Go.RowKit
set_option linter.unusedVariables false
set_option maxRecDepth 100000
end Go.Proofs.Ytamnpblijdgdaaa

/- Contract: the opening test of stage 3's laws. -/
namespace Go.Proofs.Ytamnpblijdgdaaa
open Go.ChangeShapes Go.WideShapes Go.ChangeAt Go.RowKit
set_option linter.unusedVariables false
set_option maxRecDepth 100000
theorem byt_new {W : World} {C : Array Value} {t : TypeId} {fr : Nat × Nat} {bs : List Int} (hc : C.toList = Bs bs) : Byt (W.alloc (.cells C t fr)) (some ⟨W.heap.size, 0, none⟩) bs :=
  byt_blk (heap_alloc_new W (.cells C t fr)) hc
theorem sum_lit (bs : List Int) (n : Nat) (C : Array Value) (fr : Nat × Nat) (v r : Nat) (W : World) (hr : W.heap.size = r) (hn : bs.length = n) (hn2 : n ≤ 1000) (hB : bs.all (fun x => decide (0 ≤ x ∧ x < 256)) = true) (hv : sumV bs = v) (hc : C.toList = Bs bs) :
    Calls Try.prog 81 #[.slice (some ⟨r, 0, none⟩) n n] (W.alloc (.cells C 5 fr)) fun e w' => e = .returned (.int .u32 v) ∧ (W.alloc (.cells C 5 fr)) = w' := by
  subst hv
  subst hr
  exact sum_any _ bs n n _ hn (by omega) (fun x hx => of_decide_eq_true (List.all_eq_true.1 hB x hx)) (byt_new hc)
end Go.Proofs.Ytamnpblijdgdaaa

/- Blocks as rows of numbers; contracts: block.number, the reference's High. -/
namespace Go.Proofs.Ytamnpblijdgdaaa
open Go.ChangeShapes Go.WideShapes Go.ChangeAt Go.RowKit
set_option linter.unusedVariables false
set_option maxRecDepth 100000
/-- A number in so many bytes, the highest first. -/
def be (n : Nat) : Nat → List Int
  | 0 => []
  | s + 1 => ((n / 256 ^ s % 256 : Nat) : Int) :: be n s
theorem be_length (n : Nat) : ∀ s, (be n s).length = s
  | 0 => rfl
  | s + 1 => by show (be n s).length + 1 = s + 1; rw [be_length n s]
theorem be_allB (n : Nat) : ∀ s, AllB (be n s)
  | 0 => fun x hx => by cases hx
  | s + 1 => fun x hx => by
    rcases List.mem_cons.1 hx with rfl | h
    · have := Nat.mod_lt (n / 256 ^ s) (show 0 < 256 by omega); omega
    · exact be_allB n s x h
theorem be2_inj {a b : Nat} (ha : a < 65536) (hb : b < 65536) (h : be a 2 = be b 2) : a = b := by
  unfold be be be at h
  simp only [List.cons.injEq, Nat.pow_succ, Nat.pow_zero, Nat.one_mul, Nat.div_one, and_true] at h
  omega
theorem be4_eq (n : Nat) : be n 4 = [((n / 16777216 % 256 : Nat) : Int), ((n / 65536 % 256 : Nat) : Int), ((n / 256 % 256 : Nat) : Int), ((n / 1 % 256 : Nat) : Int)] := rfl
theorem be2_eq (n : Nat) : be n 2 = [((n / 256 % 256 : Nat) : Int), ((n / 1 % 256 : Nat) : Int)] := rfl
set_option maxRecDepth 100000 in
theorem be4_inj {a b : Nat} (ha : a < 4294967296) (hb : b < 4294967296) (h : be a 4 = be b 4) : a = b := by
  rw [be4_eq, be4_eq] at h
  have h1 := Int.ofNat.inj (List.cons.inj h).1
  have h2 := Int.ofNat.inj (List.cons.inj (List.cons.inj h).2).1
  have h3 := Int.ofNat.inj (List.cons.inj (List.cons.inj (List.cons.inj h).2).2).1
  have h4 := Int.ofNat.inj (List.cons.inj (List.cons.inj (List.cons.inj (List.cons.inj h).2).2).2).1
  clear h
  rw [Nat.div_one, Nat.div_one] at h4
  have ea := Nat.div_add_mod a 256
  have eb := Nat.div_add_mod b 256
  have ea2 : a / 65536 = a / 256 / 256 := by rw [Nat.div_div_eq_div_mul]
  have eb2 : b / 65536 = b / 256 / 256 := by rw [Nat.div_div_eq_div_mul]
  have ea3 : a / 16777216 = a / 256 / 256 / 256 := by rw [Nat.div_div_eq_div_mul, Nat.div_div_eq_div_mul]
  have eb3 : b / 16777216 = b / 256 / 256 / 256 := by rw [Nat.div_div_eq_div_mul, Nat.div_div_eq_div_mul]
  have la : a / 16777216 < 256 := Nat.div_lt_of_lt_mul ha
  have lb : b / 16777216 < 256 := Nat.div_lt_of_lt_mul hb
  rw [Nat.mod_eq_of_lt la, Nat.mod_eq_of_lt lb, ea3, eb3] at h1
  rw [ea2, eb2] at h2
  generalize a / 256 = a1 at *
  generalize b / 256 = b1 at *
  have f1 := Nat.div_add_mod a1 256
  have f2 := Nat.div_add_mod b1 256
  have f3 := Nat.div_add_mod (a1 / 256) 256
  have f4 := Nat.div_add_mod (b1 / 256) 256
  rw [h1, h2] at f3
  have f5 : a1 / 256 = b1 / 256 := f3.symm.trans f4
  rw [f5, h3] at f1
  have f6 : a1 = b1 := f1.symm.trans f2
  rw [f6, h4] at ea
  exact ea.symm.trans eb
theorem AllB.append {xs ys : List Int} (hx : AllB xs) (hy : AllB ys) : AllB (xs ++ ys) := fun x h => (List.mem_append.1 h).elim (hx x) (hy x)
theorem drop_set_here {α : Type} (l : List α) (k : Nat) (x : α) (h : k < l.length) : (l.set k x).drop k = x :: l.drop (k + 1) := by
  induction l generalizing k with
  | nil => cases h
  | cons y l ih =>
    cases k with
    | zero => rfl
    | succ k => exact ih k (by simpa using h)
theorem size_alloc' (W : World) (o : Obj) : (W.alloc o).heap.size = W.heap.size + 1 := by show (W.heap.push o).size = _; simp
set_option maxRecDepth 100000 in
set_option maxHeartbeats 1600000 in
theorem number_any (w : World) (base : Nat) (v : Value) (m : Nat) (xs : List Int) (n s : Nat) (hown : w.ownsRow base 5 1 v m (Bs xs)) (hbase : base ≤ w.heap.size) (hm : m ≤ 900000) (hs : s ≤ 4) (hn : n < 4294967296) :
    Calls Try.prog 80 #[v, .int .u32 n, .int .i64 s] w fun e w' => ∃ v', e = .returned v' ∧ w'.ownsRow base 5 1 v' (m + s) (Bs (xs ++ be n s)) ∧ Below base w w' := by
  have HO := Lib.hid hown
  clear hown
  go_enter Try.func80, Try.ntmps80
  go_wp2
  refine wp_scope1e (fun a' w' => ∃ (k : Nat) (v1 : Value) (ys : List Int), k ≤ s ∧ Hid (w'.ownsRow base 5 1 v1 (m + (s - k)) (Bs (xs ++ ys)) ∧ ys ++ be n k = be n s ∧ Below base w w') ∧ ∃ u7 u8 u9 u10 u11 u12 u13 u14 u15 u16 u17 u18 u19 : Value, a' = { tmps := #[v1, .int .u32 n, .int .i64 k, undef, undef, undef, .slice none 0 0, u7, u8, u9, u10, u11, u12, u13, u14, u15, u16, u17, u18, u19], defers := [] })
    (fun a' _ => (intOf (a'.tmps.getD 2 undef)).toNat) rfl ?_ ?_
  · intro HF
    go_wp2
    go_step3
    rename_i hK
    exact hK _ _ (HF _ _ ⟨s, v, [], Nat.le_refl _, ⟨by simpa using HO.out, rfl, Below.refl _ _⟩, _, _, _, _, _, _, _, _, _, _, _, _, _, rfl⟩)
  · rintro a' W ⟨k, v1, ys, hk, HH, u7, u8, u9, u10, u11, u12, u13, u14, u15, u16, u17, u18, u19, rfl⟩
    by_cases hk0 : k = 0
    · subst hk0
      go_wp2
      simp only [Exit.jump]
      go_ret
      obtain ⟨h1, h2, h3⟩ := HH.out
      exact ⟨_, rfl, by rw [← h2]; simpa [be] using h1, h3⟩
    · obtain ⟨j, rfl⟩ : ∃ j, k = j + 1 := ⟨k - 1, by omega⟩
      have hq : (((j + 1 : Nat) : Int) == 0) = false := by simp; omega
      have hj : j < 4 := by omega
      have hsz : base ≤ W.heap.size := Nat.le_trans hbase HH.out.2.2.size
      have hstep : ∀ x : Int, x = ((n / 256 ^ j % 256 : Nat) : Int) → ∀ (W' : World) (v' : Value), W'.ownsRow base 5 1 v' (m + (s - (j + 1)) + 1) (Bs ((xs ++ ys) ++ [x])) → Below base W W' → W'.ownsRow base 5 1 v' (m + (s - j)) (Bs (xs ++ (ys ++ [x]))) ∧ (ys ++ [x]) ++ be n j = be n s ∧ Below base w W' := by
        intro x hx W' v' h1 h2
        refine ⟨?_, ?_, HH.out.2.2.trans h2⟩
        · rw [show m + (s - j) = m + (s - (j + 1)) + 1 by omega, ← List.append_assoc]; exact h1
        · rw [← HH.out.2.1, hx, List.append_assoc]; rfl
      have HS := Lib.hid hstep
      clear hstep
      have hsj : ((j + 1 : Nat) : Int) - 1 = j := by omega
      have HL : Hid (m + (s - (j + 1)) + 1 ≤ 1000000) := by unfold Hid; omega
      rcases (show j = 0 ∨ j = 1 ∨ j = 2 ∨ j = 3 by omega) with rfl | rfl | rfl | rfl
      all_goals
        go_wp2_with (first
          | (at_builtin
             refine wpList_app_byt _ rfl (.tmp 12) (.tmp 18) rfl base v1 (m + (s - _)) (xs ++ ys) rfl (HH.out.1.alloc _) (some ⟨W.heap.size, 0, none⟩) 1 1 [_] rfl (byt_blk (heap_alloc_new _ _) rfl) rfl HL.out (by rw [size_alloc']; omega) ?_
             intro v2 w2 h2 hg2 _
             have hB2 : Below base W w2 := (((Below.refl _ _).alloc hsz _).grown hg2 (by rw [size_alloc']; omega) (fun k hk => (HH.out.1.lt k hk).1))
             have H2 := Lib.hid h2
             clear h2 hg2))
        go_step3
        refine ⟨rfl, ⟨_, v2, ys ++ [_], by omega, HS.out _ ?_ _ _ H2.out hB2, _, _, _, _, _, _, _, _, _, _, _, _, _, rfl⟩, ?_⟩
        · first
            | (rw [Int.natCast_emod, Int.natCast_ediv]; rfl)
            | (simp; done)
            | (simp; omega)
        · simp [intOf]
theorem div_pow (v m : Nat) : v / 256 ^ m / 256 = v / 256 ^ (m + 1) := by rw [Nat.div_div_eq_div_mul, Nat.pow_succ]
end Go.Proofs.Ytamnpblijdgdaaa

/- Contracts: block.Seal and the reference's. -/
namespace Go.Proofs.Ytamnpblijdgdaaa
open Go.ChangeShapes Go.WideShapes Go.ChangeAt Go.RowKit
set_option linter.unusedVariables false
set_option maxRecDepth 100000
/-- A block as a value: its kind, its body. -/
def blkL (k : Int) (bs : List Int) : List Value := .int .i64 k :: Bs bs
def MayB (k t : Int) : Prop := (0 ≤ k ∧ k ≤ 7) ∧ 0 ≤ t ∧ t < 200
instance (k t : Int) : Decidable (MayB k t) := by unfold MayB; infer_instance
def headB (l k : Int) (t : Nat) (bs : List Int) : List Int := [k, l] ++ be t 2 ++ bs
def sealB (l k : Int) (t : Nat) (bs : List Int) : List Int := headB l k t bs ++ be (sumV (headB l k t bs)) 4
theorem headB_length {l k : Int} {t : Nat} {bs : List Int} (h : bs.length = 56) : (headB l k t bs).length = 60 := by unfold headB; simp [be_length, h]
theorem sealB_length {l k : Int} {t : Nat} {bs : List Int} (h : bs.length = 56) : (sealB l k t bs).length = 64 := by unfold sealB; rw [List.length_append, headB_length h, be_length]
theorem headB_allB {l k : Int} {t : Nat} {bs : List Int} (hl : 0 ≤ l ∧ l ≤ 255) (hk : 0 ≤ k ∧ k ≤ 7) (hB : AllB bs) : AllB (headB l k t bs) := by
  unfold headB
  refine AllB.append (AllB.append (fun x hx => ?_) (be_allB _ _)) hB
  simp only [List.mem_cons, List.not_mem_nil, or_false] at hx
  rcases hx with rfl | rfl <;> omega
theorem sealB_allB {l k : Int} {t : Nat} {bs : List Int} (hl : 0 ≤ l ∧ l ≤ 255) (hk : 0 ≤ k ∧ k ≤ 7) (hB : AllB bs) : AllB (sealB l k t bs) :=
  AllB.append (headB_allB hl hk hB) (be_allB _ _)
theorem add_off (g o i : Nat) : (⟨g, o, none⟩ : Addr).add i = ⟨g, o + i, none⟩ := by unfold Addr.add; split <;> simp_all
/-- The body of a block in memory. -/
theorem byt_body {W : World} {g : Nat} {C : Array Value} {t : TypeId} {fr : Nat × Nat} {k : Int} {bs : List Int} (h : W.heap[g]? = some (.cells C t fr)) (hc : C.toList = blkL k bs) : Byt W (some ⟨g, 1, none⟩) bs := by
  intro i x hi
  refine ⟨_, rfl, ?_⟩
  rw [add_off, cell_of_row _ _ _ _ _ _ h, ← Array.getElem?_toList, hc, Nat.add_comm]
  exact Bs_at hi
theorem blk_kind {W : World} {g : Nat} {C : Array Value} {t : TypeId} {fr : Nat × Nat} {k : Int} {bs : List Int} (h : W.heap[g]? = some (.cells C t fr)) (hc : C.toList = blkL k bs) : W.cell? ⟨g, 0, none⟩ = some (.int .i64 k) := by
  rw [cell_of_row _ _ _ _ _ _ h, ← Array.getElem?_toList, hc]; rfl
set_option maxRecDepth 100000 in
set_option maxHeartbeats 3200000 in
theorem seal_no (l k t : Int) (C : Array Value) (bs : List Int) (w : World) (hl : 0 ≤ l ∧ l ≤ 255) (hk : i64 k) (ht : i64 t) (hC : C.toList = blkL k bs) (hno : ¬ MayB k t) :
    Calls Try.prog 60 #[.int .u8 l, .int .i64 t, .agg C] w fun e w' => e = .returned (.tuple #[.slice none 0 0, .bool false]) ∧ Below w.heap.size w w' := by
  have hblk := heap_alloc_new w (Obj.cells C 46)
  have c0 := blk_kind hblk hC
  have hbel : Below w.heap.size w (w.alloc (Obj.cells C 46)) := (Below.refl _ _).alloc (Nat.le_refl _) _
  have HC := Lib.hid hC
  clear hblk hC
  go_enter Try.func60, Try.ntmps60
  go_wp2
  refine wp_scope1e (fun a' w' => w' = w.alloc (Obj.cells C 46) ∧ ∃ u9 u10 u11 u12 u13 u14 u15 u16 u17 u18 u19 u20 u21 u22 u23 u24 u25 u26 u27 u28 u29 u30 u31 u32 u33 u34 u35 u36 u37 u38 u39 u40 u41 u42 u43 : Value, a' = { tmps := #[.int .u8 l, .int .i64 t, .agg C, undef, undef, .pointer (some ⟨w.heap.size, 0, none⟩), .slice none 0 0, .bool false, .slice none 0 0, u9, u10, u11, u12, u13, u14, u15, u16, u17, u18, u19, u20, u21, u22, u23, u24, u25, u26, u27, u28, u29, u30, u31, u32, u33, u34, u35, u36, u37, u38, u39, u40, u41, u42, u43], defers := [] }) (fun _ _ => 0) rfl ?_ ?_
  · intro _
    by_cases h1 : k < 0
    · go_wp2
      go_step3
      exact ⟨rfl, rfl, _, _, _, _, _, _, _, _, _, _, _, _, _, _, _, _, _, _, _, _, _, _, _, _, _, _, _, _, _, _, _, _, _, _, _, rfl⟩
    · by_cases h2 : 7 < k
      · go_wp2
        go_step3
        exact ⟨rfl, rfl, _, _, _, _, _, _, _, _, _, _, _, _, _, _, _, _, _, _, _, _, _, _, _, _, _, _, _, _, _, _, _, _, _, _, _, rfl⟩
      · by_cases h3 : t < 0
        · go_wp2
          go_step3
          exact ⟨rfl, rfl, _, _, _, _, _, _, _, _, _, _, _, _, _, _, _, _, _, _, _, _, _, _, _, _, _, _, _, _, _, _, _, _, _, _, _, rfl⟩
        · have h4 : 200 ≤ t := by unfold MayB at hno; omega
          go_wp2
          go_step3
          exact ⟨rfl, rfl, _, _, _, _, _, _, _, _, _, _, _, _, _, _, _, _, _, _, _, _, _, _, _, _, _, _, _, _, _, _, _, _, _, _, _, rfl⟩
  · rintro a' W ⟨rfl, u9, u10, u11, u12, u13, u14, u15, u16, u17, u18, u19, u20, u21, u22, u23, u24, u25, u26, u27, u28, u29, u30, u31, u32, u33, u34, u35, u36, u37, u38, u39, u40, u41, u42, u43, rfl⟩
    go_wp2
    simp only [Exit.jump]
    go_ret2
    exact ⟨rfl, hbel⟩
set_option maxRecDepth 100000 in
set_option maxHeartbeats 3200000 in
theorem seal_yes (l k : Int) (n : Nat) (C : Array Value) (bs : List Int) (w : World) (hl : 0 ≤ l ∧ l ≤ 255) (hk : 0 ≤ k ∧ k ≤ 7) (hn : n < 200) (hC : C.toList = blkL k bs) (h56 : bs.length = 56) (hB : AllB bs) :
    Calls Try.prog 60 #[.int .u8 l, .int .i64 n, .agg C] w fun e w' => ∃ v, e = .returned (.tuple #[v, .bool true]) ∧ w'.ownsRow w.heap.size 5 1 v 64 (Bs (sealB l k n bs)) ∧ Below w.heap.size w w' := by
  have hblk := heap_alloc_new w (Obj.cells C 46)
  have c0 := blk_kind hblk hC
  have hby := byt_body hblk hC
  have hbel : Below w.heap.size w (w.alloc (Obj.cells C 46)) := (Below.refl _ _).alloc (Nat.le_refl _) _
  obtain ⟨i0, hi, hz0, hz1, hz2⟩ := info_parts info5
  have hmk := fun w : World => run_make (P := Try.prog) w 24 5 i0 _ Try.underlying24 hi hz0 .i64 .i64 0 64 (by omega) (by omega) (by rw [hz2]; omega) (by omega)
  generalize hM : madeCells (Value.int .u8 0).cells ((64 : Int).toNat * i0.size) = M at hmk
  have HM : Hid (M.size = 64 * 1) := by rw [← hM, size_madeCells, hz1]; unfold Hid; simp
  rw [show ((64 : Int)).toNat = 64 by omega, show ((0 : Int)).toNat = 0 by omega] at hmk
  have HBL := Lib.hid hblk
  have HBY := Lib.hid hby
  have hwk : IntKind.u8.wrap k = k := IntWalk.u8_in _ (by omega)
  have hwn : IntKind.u32.wrap (n : Int) = n := IntWalk.u32_in _ (by omega)
  have HB := Lib.hid (headB_allB (t := n) hl hk hB)
  have HLH := Lib.hid (headB_length (l := l) (k := k) (t := n) h56)
  have HSV := Lib.hid (sumV_lt (headB l k n bs))
  have H56 := Lib.hid h56
  have hg0 : w.heap.size < (w.alloc (Obj.cells C 46)).heap.size := by rw [size_alloc']; omega
  clear hblk hC hby hM hi hz0 hz1 hz2
  go_enter Try.func60, Try.ntmps60
  go_wp2
  have hk0 : ¬ k < 0 := by omega
  have hk7 : ¬ 7 < k := by omega
  have hd1 : decide ((n : Int) < 0) = false := decide_eq_false (by omega)
  have hd2 : decide (200 ≤ (n : Int)) = false := decide_eq_false (by omega)
  generalize w.alloc (Obj.cells C 46) = W0 at *
  have own0 := World.ownsRow_made (e := 5) (size := 1) W0 M 64 (Nat.le_refl W0.heap.size) (by simp only [maxLen]; omega) HM.out
  have B0 : Below W0.heap.size W0 (W0.alloc (Obj.cells M 5)) := (Below.refl _ _).alloc (Nat.le_refl _) _
  refine wp_scope1e (fun _ _ => False) (fun _ _ => 0) rfl ?_ (fun _ _ h => h.elim)
  intro _
  go_wp2_with (first
    | (at_builtin
       refine wpList_app_byt _ rfl (.tmp 24) (.tmp 29) rfl W0.heap.size _ 0 [] rfl (own0.alloc _) (some ⟨(W0.alloc (Obj.cells M 5)).heap.size, 0, none⟩) 2 2 [k, l] (by rw [size_alloc']; rfl) (byt_blk (heap_alloc_new _ _) rfl) rfl (by omega) ((B0.alloc B0.size _).size) ?_
       intro v1 w1 h1 hg1 _
       have B1 : Below W0.heap.size W0 w1 := (B0.alloc B0.size _).grown hg1 (B0.alloc B0.size _).size (fun j hj => (own0.lt j hj).1)
       have own1 : w1.ownsRow W0.heap.size 5 1 v1 2 (Bs [k, l]) := h1
       clear h1 hg1 own0 B0))
  refine (number_any w1 W0.heap.size v1 2 [k, l] n 2 own1 B1.size (by omega) (by omega) (by omega)).mono ?_
  rintro e w2 ⟨v2, rfl, own2, hb2⟩
  have B2 := B1.trans hb2
  clear own1 B1 hb2
  go_wp2_with (first
    | (at_builtin
       refine wpList_app_byt _ rfl (.tmp 35) (.tmp 37) rfl W0.heap.size v2 4 _ rfl own2 (some ⟨w.heap.size, 1, none⟩) 56 56 bs rfl (HBY.out.keep B2) H56.out (by omega) B2.size ?_
       intro v3 w3 h3 hg3 _
       have B3 : Below W0.heap.size W0 w3 := B2.grown hg3 B2.size (fun j hj => (own2.lt j hj).1)
       have own3 : w3.ownsRow W0.heap.size 5 1 v3 60 (Bs (headB l k n bs)) := h3
       clear h3 hg3 own2 B2))
  obtain ⟨A3, d3, rfl, hle3, hd3, hy3⟩ := byt_own own3 HLH.out
  rw [HLH.out] at own3 hle3 ⊢
  refine (sum_any A3 (headB l k n bs) 60 d3 w3 HLH.out (by omega) HB.out hy3).mono ?_
  rintro e w4 ⟨rfl, rfl⟩
  have HY3 := Lib.hid hy3
  have HSE : Hid (sealB l k n bs = headB l k n bs ++ be (sumV (headB l k n bs)) 4) := Lib.hid rfl
  clear hy3
  generalize sumV (headB l k n bs) = sv at *
  go_wp2_with fail
  refine (number_any w3 W0.heap.size _ 60 (headB l k n bs) sv 4 own3 B3.size (by omega) (by omega) HSV.out).mono ?_
  rintro e w4 ⟨v4, rfl, own4, hb4⟩
  go_wp2_with fail
  try simp only [Exit.jump]
  go_ret2
  exact ⟨v4, rfl, by rw [HSE.out]; exact own4.mono (Nat.le_of_lt hg0), hbel.trans ((B3.trans hb4).mono (Nat.le_of_lt hg0))⟩
end Go.Proofs.Ytamnpblijdgdaaa

/- Contracts: the reference's Seal. -/
namespace Go.Proofs.Ytamnpblijdgdaaa
open Go.ChangeShapes Go.WideShapes Go.ChangeAt Go.RowKit
set_option linter.unusedVariables false
set_option maxRecDepth 100000
/-- Bytes that are a block's first cells. -/
theorem blk_row {W : World} {g : Nat} {C : Array Value} {t : TypeId} {fr : Nat × Nat} {xs : List Int} (h : W.heap[g]? = some (.cells C t fr)) (hc : C.toList = Bs xs) : ∀ j u, (Bs xs)[j]? = some u → W.cell? ((⟨g, 0, none⟩ : Addr).add j) = some u := by
  intro j u hj
  rw [add_at, cell_of_row _ _ _ _ _ _ h, ← Array.getElem?_toList, hc]; exact hj
/-- append to a slice that is full: its array stays as it is. -/
theorem run_app_full (w : World) (ty : TypeId) (g n : Nat) (xs : List Int) (hx : ∀ j u, (Bs xs)[j]? = some u → w.cell? ((⟨g, 0, none⟩ : Addr).add j) = some u) (hn : xs.length = n) (A : Option Addr) (m c : Nat) (ys : List Int) (hy : Byt w A ys) (hm : ys.length = m)
    (h0 : 0 < m) (h63 : n + m ≤ 1000000) :
    ∃ v' w', (Builtin.append_ #[24, 24] ty #[.slice (some ⟨g, 0, none⟩) n n, .slice A m c]).run Try.prog w = .ok v' w' ∧ (∀ base, base ≤ w.heap.size → w'.ownsRow base 5 1 v' (n + m) (Bs (xs ++ ys))) ∧ w.grownBy w' none := by
  obtain ⟨i0, hi, hz0, hz1, hz2⟩ := info_parts info5
  have hA : ∃ a, A = some a := by
    cases ys with
    | nil => simp at hm; omega
    | cons y l => obtain ⟨a, e, _⟩ := hy 0 y rfl; exact ⟨a, e⟩
  obtain ⟨a, rfl⟩ := hA
  have hnews : ∀ j u, (Bs ys)[j]? = some u → w.cell? (a.add j) = some u := fun j u hj => by
    unfold Bs at hj
    rw [List.getElem?_map] at hj
    obtain ⟨x, hx, rfl⟩ := Option.map_eq_some_iff.1 hj
    obtain ⟨a', e, hc⟩ := hy j x hx
    injection e with e; subst e; exact hc
  have hge := grownCap_ge w (n + m) n 5
  have hcm : grownCap w (n + m) n 5 ≤ maxLen := grownCap_le_maxLen w (n + m) n _ (by simp only [maxLen]; omega)
  have hr := run_append_grow (P := Try.prog) w 24 ty 5 i0 (.int .u8 0) Try.underlying24 hi hz0 ⟨g, 0, none⟩ n n (Bs xs) (by rw [Bs_length, hz1]; omega) hx a m c (Bs ys) (by rw [Bs_length, hz1]; omega) hnews (by omega) (by omega)
    (by rw [hz2]; have := nextslicecap_le (show n < n + m by omega); omega)
  have hlen : (Bs (xs ++ ys)).length = (n + m) * 1 := by rw [Bs_length, List.length_append]; omega
  refine ⟨_, _, hr, fun base hb => ⟨hlen, .inr ⟨w.heap.size, _, _, rfl, hb, heap_alloc_new w.drew _, hge, hcm, ?_, ?_⟩⟩, ⟨rfl, rfl, rfl, by simp, fun k hk _ => heap_alloc_old w.drew _ hk⟩⟩
  · simp only [Array.size_append, List.size_toArray, size_zeroCells, Bs_length, hn, hm]
    show n + m + (_ - (n + m)) * 1 = _ * 1
    omega
  · simp only [Array.toList_append, List.append_assoc]
    rw [← List.append_assoc, ← hlen, Bs_append]
    exact List.take_left
theorem wp_app_full (w : World) {o : Oper} {a : Act} {K : Act → World → Prop} {Q : Exit → Act → World → Prop} (s x : Operand)
    (ho : o.op = .call { callee := .builtin .append, args := #[s, x], argTypes := #[24, 24] })
    (g n : Nat) (xs : List Int) (hs : a.eval s = .slice (some ⟨g, 0, none⟩) n n) (hx : ∀ j u, (Bs xs)[j]? = some u → w.cell? ((⟨g, 0, none⟩ : Addr).add j) = some u) (hn : xs.length = n) (A : Option Addr) (m c : Nat) (ys : List Int) (hv : a.eval x = .slice A m c) (hy : Byt w A ys) (hm : ys.length = m)
    (h0 : 0 < m) (h63 : n + m ≤ 1000000)
    (h : ∀ v' w', (∀ base, base ≤ w.heap.size → w'.ownsRow base 5 1 v' (n + m) (Bs (xs ++ ys))) → w.grownBy w' none → K (a.put o.dst v') w') : o.wp Try.prog a w K Q := by
  obtain ⟨v', w', hr, h2, h3⟩ := run_app_full w o.type g n xs hx hn A m c ys hy hm h0 h63
  unfold Oper.wp execOp
  simp only [ho, resolve, invoke, builtin, Sem.run_bind, Sem.run_pure, Result.andThen_ok, List.map_toArray, List.map_cons, List.map_nil, hs, hv, hr]
  exact h v' w' h2 h3
def VS3 (p B n : Nat) (k l : Int) (i : Nat) (v : Value) (w : World) : Prop :=
  match i with
  | 0 => v = .pointer (some ⟨p, 0, none⟩)
  | 1 => v = .int .i64 k
  | 2 => v = .int .u8 k
  | 3 => v = .int .u8 l
  | 5 => v = .int .i64 n
  | 6 => v = .int .u64 n
  | 4 => ∃ g, v = .slice (some ⟨g, 0, none⟩) 2 2 ∧ w.heap[g]? = some (.cells #[.int .u8 k, .int .u8 l] 5 (0, 0))
  | 7 => w.ownsRow B 5 1 v 2 (Bs (be n 2))
  | 8 => w.ownsRow B 5 1 v 4 (Bs ([k, l] ++ be n 2))
  | _ => True
theorem VS3.on {p B n : Nat} {k l : Int} {j : Nat} {v : Value} {w w' : World} (h : VS3 p B n k l j v w) (hg : w.grownBy w' none) : VS3 p B n k l j v w' := by
  unfold VS3 at *
  split <;> try exact h
  · obtain ⟨g, e, h1⟩ := h
    exact ⟨g, e, by rw [hg.block g (room_lt h1) (by simp)]; exact h1⟩
  · exact World.ownsRow.kept (row := none) h hg (by cases v.ownBlock <;> simp)
  · exact World.ownsRow.kept (row := none) h hg (by cases v.ownBlock <;> simp)
  · trivial
/-- append of no noughts. -/
theorem run_app_none (w : World) (ty : TypeId) (A : Option Addr) (n c : Nat) (hc : n ≤ c) :
    (Builtin.append_ #[24, 3] ty #[.slice A n c, .int .i64 0]).run Try.prog w = .ok (.slice A n c) w := by
  obtain ⟨i0, hi, hz0, hz1, hz2⟩ := info_parts info5
  have hw : IntKind.i64.wrap 0 = 0 := rfl
  rcases A with _ | a
  · simp [Builtin.append_, run_underlying Try.underlying24, run_underlying Try.underlying3, sizeOf, typeInfo, hi, asInt, asIntOf, hw, hc]
  · simp [Builtin.append_, run_underlying Try.underlying24, run_underlying Try.underlying3, sizeOf, typeInfo, hi, asInt, asIntOf, hw, hc, storeCells]
theorem wpList_app_none (w : World) {ops : Array Oper} {rest : List Oper} {o : Oper} {a : Act} {Q : Exit → Act → World → Prop} (hgd : o.guard = none) (s x : Operand)
    (ho : o.op = .call { callee := .builtin .append, args := #[s, x], argTypes := #[24, 3] })
    (A : Option Addr) (n c : Nat) (hs : a.eval s = .slice A n c) (hx : a.eval x = .int .i64 0) (hc : n ≤ c)
    (h : wpList Try.prog ops Q rest (a.put o.dst (.slice A n c)) w) : wpList Try.prog ops Q (o :: rest) a w :=
  wpList_plain hgd fun _ hK => by
    unfold Oper.wp execOp
    simp only [ho, resolve, invoke, builtin, Sem.run_bind, Sem.run_pure, Result.andThen_ok, List.map_toArray, List.map_cons, List.map_nil, hs, hx, run_app_none w o.type A n c hc]
    exact hK _ _ h
end Go.Proofs.Ytamnpblijdgdaaa

/- Blocks as values in memory: laid, loaded, stored, copied into, compared; contract: bytes.Equal. -/
namespace Go.Proofs.Ytamnpblijdgdaaa
open Go.ChangeShapes Go.WideShapes Go.ChangeAt Go.RowKit
set_option linter.unusedVariables false
set_option maxRecDepth 100000
def zBs : List Int := List.replicate 56 0
def blkA (k : Int) (bs : List Int) : Array Value := (blkL k bs).toArray
theorem blkA_list (k : Int) (bs : List Int) : (blkA k bs).toList = blkL k bs := by unfold blkA; simp
theorem blkA_size {k : Int} {bs : List Int} (h : bs.length = 56) : (blkA k bs).size = 57 := by unfold blkA blkL; simp [Bs_length, h]
theorem blkA_one (k : Int) (bs : List Int) : (blkA k bs).all (·.oneCell') = true := by
  refine Array.all_eq_true_iff_forall_mem.2 fun v hv => ?_
  unfold blkA blkL at hv
  simp only [List.mem_toArray, List.mem_cons] at hv
  rcases hv with rfl | hv
  · rfl
  · exact Bs_one bs v hv
theorem zBs_len : zBs.length = 56 := by unfold zBs; simp
theorem info24 : (Try.prog.info? 46).map (fun i => (i.zero, i.size, i.bytes)) = some (some (.agg (blkA 0 zBs)), 57, 64) := by kernel_rfl
theorem size24b : (Try.prog.info? 46).map (·.size) = some 57 := by kernel_rfl
theorem built24 : Try.prog.built 46 [] = some (blkA 0 zBs) := by kernel_rfl
section
variable {ops : Array Oper} {rest : List Oper} {o : Oper} {a : Act} {w : World} {Q : Exit → Act → World → Prop}
theorem wpList_allocB (hgd : o.guard = none) (ho : o.op = .alloc 46)
    (h : wpList Try.prog ops Q rest (a.put o.dst (.pointer (some ⟨w.heap.size, 0, none⟩))) (w.alloc (.cells (blkA 0 zBs) 46))) : wpList Try.prog ops Q (o :: rest) a w := by
  obtain ⟨i0, hi, hz0, hz1, hz2⟩ := info_parts info24
  exact wpList_plain hgd fun _ hK => wp_alloc_of 46 ho i0 _ hi hz0 (hK _ _ h)
theorem wpList_buildB0 (hgd : o.guard = none) (ho : o.op = .build 46 #[])
    (h : wpList Try.prog ops Q rest (a.put o.dst (.agg (blkA 0 zBs))) w) : wpList Try.prog ops Q (o :: rest) a w :=
  wpList_plain hgd fun _ hK => by
    unfold Oper.wp execOp
    have hb := run_build (P := Try.prog) w 46 #[] _ built24
    simp only [ho, List.map_toArray, List.map_nil, Sem.run_bind, hb, Result.andThen_ok]
    exact hK _ _ h
theorem wpList_loadB (hgd : o.guard = none) (x : Operand) (ho : o.op = .load 46 x) (g : Nat) (hx : a.eval x = .pointer (some ⟨g, 0, none⟩)) (k : Int) (bs : List Int) (h56 : bs.length = 56) (hg : w.heap[g]? = some (.cells (blkA k bs) 46 (0, 0)))
    (h : wpList Try.prog ops Q rest (a.put o.dst (.agg (blkA k bs))) w) : wpList Try.prog ops Q (o :: rest) a w :=
  wpList_load_row hgd 46 x ho g hx _ _ _ _ hg Try.underlying46 rfl (by rw [blkA_size h56]; exact size24b) h
theorem wpList_storeB (hgd : o.guard = none) (x y : Operand) (ho : o.op = .store 46 x y) (g : Nat) (hx : a.eval x = .pointer (some ⟨g, 0, none⟩)) (k j : Int) (bs cs : List Int) (hy : a.eval y = .agg (blkA k bs)) (h56 : bs.length = 56) (h56' : cs.length = 56) (hg : w.heap[g]? = some (.cells (blkA j cs) 46 (0, 0)))
    (h : wpList Try.prog ops Q rest (a.put o.dst undef) (w.setRow g (blkA k bs))) : wpList Try.prog ops Q (o :: rest) a w :=
  wpList_store_row hgd 46 x y ho g _ hx hy _ _ hg (by rw [blkA_size h56]; exact size24b) (by rw [blkA_size h56, blkA_size h56']) (blkA_one _ _) h
theorem run_copyB (w : World) (ty : TypeId) (g : Nat) (k : Int) (bs ys : List Int) (hg : w.heap[g]? = some (.cells (blkA k bs) 46 (0, 0))) (hb : bs.length = 56) (ad : Addr) (m c : Nat) (hm : 56 ≤ m) (hy : ys.length = 56) (hsrc : Byt w (some ad) ys) :
    (Builtin.copy_ #[24, 24] ty #[.slice (some ⟨g, 1, none⟩) 56 56, .slice (some ad) m c]).run Try.prog w = .ok (goInt 56) (w.setRow g (blkA k ys)) := by
  obtain ⟨i0, hi, hz0, hz1, hz2⟩ := info_parts info5
  have h := run_copy_row Try.prog w 24 24 ty 5 g 1 56 56 ad m c (blkA k bs) 46 (Bs ys) Try.underlying24 (by rw [hi]; simp [hz1]) hg (by rw [Bs_length, hy]; simp [Nat.min_def]; omega)
    (fun j v hj => by
      unfold Bs at hj
      rw [List.getElem?_map] at hj
      obtain ⟨x, hx, rfl⟩ := Option.map_eq_some_iff.1 hj
      obtain ⟨a', e, hc⟩ := hsrc j x hx
      injection e with e; subst e; exact hc) (by rw [Bs_length, blkA_size hb, hy]; decide) (Bs_one _)
  rw [h, Bs_length, hy]
  congr 2
  rw [blkA_list]
  have e : (blkL k bs).drop (1 + 56) = [] := List.drop_of_length_le (by unfold blkL; simp [Bs_length, hb])
  rw [e]
  unfold blkA blkL
  simp
theorem wpList_copyB (hgd : o.guard = none) (s x : Operand) (ho : o.op = .call { callee := .builtin .copy, args := #[s, x], argTypes := #[24, 24] })
    (g : Nat) (k : Int) (bs ys : List Int) (hs : a.eval s = .slice (some ⟨g, 1, none⟩) 56 56) (hg : w.heap[g]? = some (.cells (blkA k bs) 46 (0, 0))) (hb : bs.length = 56) (ad : Addr) (m c : Nat) (hx : a.eval x = .slice (some ad) m c) (hm : 56 ≤ m) (hy : ys.length = 56) (hsrc : Byt w (some ad) ys)
    (h : wpList Try.prog ops Q rest (a.put o.dst (goInt 56)) (w.setRow g (blkA k ys))) : wpList Try.prog ops Q (o :: rest) a w :=
  wpList_plain hgd fun _ hK => by
    unfold Oper.wp execOp
    simp only [ho, resolve, invoke, builtin, Sem.run_bind, Sem.run_pure, Result.andThen_ok, List.map_toArray, List.map_cons, List.map_nil, hs, hx, run_copyB w o.type g k bs ys hg hb ad m c hm hy hsrc]
    exact hK _ _ h
end
theorem results_blk {fn : Func} {p u : Tmp} (h : fn.results = #[.cell p 46, .tmp u]) (tmps : Array Value) (w : World) (g : Nat) (k : Int) (bs : List Int) (hp : tmps.getD p undef = .pointer (some ⟨g, 0, none⟩)) (h56 : bs.length = 56) (hg : w.heap[g]? = some (.cells (blkA k bs) 46 (0, 0))) :
    (results fn tmps).run Try.prog w = .ok (.tuple #[.agg (blkA k bs), tmps.getD u undef]) w := by
  rw [results_cell_tmp h, hp]
  simp only [asAddr, Sem.run_pure, Result.andThen_ok]
  rw [run_loadVar_row w g _ _ _ _ _ hg Try.underlying46 rfl (by rw [blkA_size h56]; exact size24b)]
  rfl
theorem equal_any (A B : Option Addr) (xs ys : List Int) (n m c d : Nat) (w : World) (hn : xs.length = n) (hm : ys.length = m) (hx : AllB xs) (hy : AllB ys) (bx : Byt w A xs) (by_ : Byt w B ys) :
    Calls Try.prog 87 #[.slice A n c, .slice B m d] w fun e w' => e = .returned (.bool (decide (xs = ys))) ∧ w = w' := by
  have h1 := conv_any (c := c) bx hn
  have h2 := conv_any (c := d) by_ hm
  have HB := Lib.hid (str_beq hx hy)
  clear bx by_ hn hm
  generalize strOfNums xs = s1 at *
  generalize strOfNums ys = s2 at *
  go_enter Try.func87, Try.ntmps87
  go_wp2
  go_ret
  exact ⟨ret_bool HB.out, rfl⟩
end Go.Proofs.Ytamnpblijdgdaaa

/- Contract: block.Open. -/
namespace Go.Proofs.Ytamnpblijdgdaaa
open Go.ChangeShapes Go.WideShapes Go.ChangeAt Go.RowKit
set_option linter.unusedVariables false
set_option maxRecDepth 100000
def opK (xs : List Int) : Int := xs.getD 0 0
def opBs (xs : List Int) : List Int := (xs.drop 4).take 56
def Opens (l t : Int) (xs : List Int) : Prop := xs.length = 64 ∧ MayB (opK xs) t ∧ sealB l (opK xs) t.toNat (opBs xs) = xs
instance (l t : Int) (xs : List Int) : Decidable (Opens l t xs) := by unfold Opens; infer_instance
def openA (l t : Int) (xs : List Int) : Array Value := if Opens l t xs then blkA (opK xs) (opBs xs) else blkA 0 zBs
theorem opBs_len {xs : List Int} (h : xs.length = 64) : (opBs xs).length = 56 := by unfold opBs; simp [h]
theorem opBs_allB {xs : List Int} (h : AllB xs) : AllB (opBs xs) := fun x hx => h x (List.mem_of_mem_drop (List.mem_of_mem_take hx))
theorem setRow_blk {w : World} {g : Nat} {C D : Array Value} {t : TypeId} {fr : Nat × Nat} (h : w.heap[g]? = some (.cells C t fr)) : (w.setRow g D).heap[g]? = some (.cells D t fr) := setRow_heap w g C D t fr h
theorem below_setRow {B g : Nat} {w W : World} (h : Below B w W) (hg : B ≤ g) (D : Array Value) : Below B w (W.setRow g D) :=
  ⟨h.os, h.tape, h.output, by simpa using h.size, fun k hk => by rw [setRow_other W g k D (by omega)]; exact h.block k hk⟩
theorem blkA_set0 (x k : Int) (bs : List Int) : (blkA k bs).setIfInBounds 0 (.int .i64 x) = blkA x bs := by unfold blkA blkL; simp
set_option maxRecDepth 100000 in
set_option maxHeartbeats 3200000 in
theorem open_any (l t : Int) (A : Option Addr) (xs : List Int) (c : Nat) (w : World) (hl : 0 ≤ l ∧ l ≤ 255) (ht : i64 t) (hc : xs.length ≤ c) (hc2 : c ≤ 9223372036854775807) (hB : AllB xs) (hy : Byt w A xs) :
    Calls Try.prog 90 #[.int .u8 l, .int .i64 t, .slice A xs.length c] w fun e w' => e = .returned (.tuple #[.agg (openA l t xs), .bool (decide (Opens l t xs))]) ∧ Below w.heap.size w w' := by
  have HY := Lib.hid hy
  have HB := Lib.hid hB
  have hm0 := heap_alloc_new w (Obj.cells (blkA 0 zBs) 46)
  have hbel0 : Below w.heap.size w (w.alloc (Obj.cells (blkA 0 zBs) 46)) := (Below.refl _ _).alloc (Nat.le_refl _) _
  have hsz0 := size_alloc' w (Obj.cells (blkA 0 zBs) 46)
  clear hy hB
  generalize hn : xs.length = n at *
  have HN := Lib.hid hn
  clear hn
  go_enter Try.func90, Try.ntmps90
  go_wp2_with (first
    | (refine wpList_allocB rfl rfl ?_))
  generalize w.alloc (Obj.cells (blkA 0 zBs) 46) = W1 at *
  have HM0 := Lib.hid hm0
  have hszW : W1.heap.size = w.heap.size + 1 := hsz0
  have HY1 := Lib.hid (HY.out.keep hbel0)
  clear hm0
  refine wp_scope1e (fun a' w' => Hid (Below w.heap.size w w' ∧ w'.heap[w.heap.size]? = some (.cells (blkA 0 zBs) 46 (0, 0)) ∧ ¬ Opens l t xs) ∧ ∃ u0 u1 u2 u3 u4 u5 u7 u8 u9 u10 u11 u12 u13 u14 u15 u16 u17 u18 u19 u20 u21 u22 u23 u24 u25 u26 u27 u28 u29 u30 u31 u32 u33 u34 u35 u36 u37 u38 : Value, a' = { tmps := #[u0, u1, u2, u3, u4, u5, .pointer (some ⟨w.heap.size, 0, none⟩), u7, u8, u9, u10, u11, u12, u13, u14, u15, u16, u17, u18, u19, u20, u21, u22, u23, u24, u25, u26, u27, u28, u29, u30, u31, u32, u33, u34, u35, u36, u37, u38], defers := [] }) (fun _ _ => 0) rfl ?_ ?_
  · intro _
    have HM2 := Lib.hid (heap_alloc_new W1 (Obj.cells (blkA 0 zBs) 46))
    have HM02 : Hid ((W1.alloc (Obj.cells (blkA 0 zBs) 46)).heap[w.heap.size]? = some (.cells (blkA 0 zBs) 46 (0, 0))) := by
      unfold Hid; rw [heap_alloc_old W1 _ (by omega)]; exact HM0.out
    have HBL2 := Lib.hid (hbel0.alloc hbel0.size (Obj.cells (blkA 0 zBs) 46))
    by_cases h64 : n = 64
    · subst h64
      obtain ⟨x0, hx0⟩ : ∃ x0, xs[0]? = some x0 := ⟨_, List.getElem?_eq_getElem (by rw [HN.out]; omega)⟩
      obtain ⟨ad, rfl, hc0⟩ := (HY1.out.alloc (Obj.cells (blkA 0 zBs) 46)) 0 x0 hx0
      have ea : ad.add 0 = ad := by unfold Addr.add; simp
      rw [ea] at hc0
      have hxb := HB.out x0 (List.mem_of_getElem? hx0)
      have hk : opK xs = x0 := by unfold opK; rw [List.getD, hx0]; rfl
      have HKX := Lib.hid hk
      have cz := blk_kind HM2.out (blkA_list 0 zBs)
      have fz : (W1.alloc (Obj.cells (blkA 0 zBs) 46)).frozen? ⟨W1.heap.size, 0, none⟩ = false := blk_free HM2.out 0
      clear hx0 ea hk
      go_wp2_with (first
        | (refine wpList_allocB rfl rfl ?_))
      rw [blkA_set0, ← hszW]
      have HM3 := Lib.hid (heap_alloc_new W1 (Obj.cells (blkA x0 zBs) 46))
      have HM03 : Hid ((W1.alloc (Obj.cells (blkA x0 zBs) 46)).heap[w.heap.size]? = some (.cells (blkA 0 zBs) 46 (0, 0))) := by
        unfold Hid; rw [heap_alloc_old W1 _ (by omega)]; exact HM0.out
      have HBL3 := Lib.hid (hbel0.alloc hbel0.size (Obj.cells (blkA x0 zBs) 46))
      have HY3 := Lib.hid (HY1.out.alloc (Obj.cells (blkA x0 zBs) 46))
      rw [hszW] at HM3
      clear HM2 HM02 HBL2 cz fz hc0 hbel0 hszW
      generalize W1.alloc (Obj.cells (blkA x0 zBs) 46) = W2 at *
      go_still_tail 4, (by kernel_rfl)
      change wpList _ _ _ _ _ W2.drew
      rw [if_neg (show ¬ c = 4 by omega)]
      have HM3' : Hid (W2.drew.heap[w.heap.size + 1]? = some (.cells (blkA x0 zBs) 46 (0, 0))) := HM3
      have HM03' : Hid (W2.drew.heap[w.heap.size]? = some (.cells (blkA 0 zBs) 46 (0, 0))) := HM03
      have HBL3' : Hid (Below w.heap.size w W2.drew) := HBL3.out.drew
      have HY3' : Hid (Byt W2.drew (some ⟨ad.block, ad.off + 4, none⟩) (opBs xs)) := fun i x hi => by
        unfold opBs at hi
        have hi2 : xs[4 + i]? = some x := by
          rw [List.getElem?_take] at hi
          split at hi
          · rwa [List.getElem?_drop] at hi
          · cases hi
        obtain ⟨ad', e, h⟩ := HY3.out _ _ hi2
        injection e with e; subst e
        refine ⟨_, rfl, ?_⟩
        rw [add_off]
        rw [show 4 + i = (3 + i) + 1 by omega, add_sum] at h
        rw [show ad.off + 4 + i = ad.off + (3 + i + 1) by omega]
        exact h
      clear HM3 HM03 HBL3 HY3
      generalize W2.drew = W3 at *
      have HM4 := Lib.hid (setRow_blk (D := blkA x0 (opBs xs)) HM3'.out)
      have HM04 : Hid ((W3.setRow (w.heap.size + 1) (blkA x0 (opBs xs))).heap[w.heap.size]? = some (.cells (blkA 0 zBs) 46 (0, 0))) := by
        unfold Hid; rw [setRow_other W3 _ _ _ (by omega)]; exact HM03'.out
      have HBL4 := Lib.hid (below_setRow HBL3'.out (show w.heap.size ≤ w.heap.size + 1 by omega) (blkA x0 (opBs xs)))
      have HY4 := Lib.hid (HY.out.keep HBL4.out)
      have h56 := opBs_len HN.out
      have H56 := Lib.hid h56
      refine wpList_copyB rfl (.tmp 20) (.tmp 22) rfl (w.heap.size + 1) x0 zBs (opBs xs) rfl HM3'.out zBs_len ⟨ad.block, ad.off + 4, none⟩ 60 (c - 4) rfl (by omega) h56 HY3'.out ?_
      generalize W3.setRow (w.heap.size + 1) (blkA x0 (opBs xs)) = W4 at *
      clear HM3' HM03' HBL3' HY3'
      go_wp2_with (first
        | (refine wpList_loadB rfl (.tmp 8) rfl (w.heap.size + 1) rfl x0 (opBs xs) H56.out HM4.out ?_))
      by_cases hmay : MayB x0 t
      · obtain ⟨m, rfl⟩ : ∃ m : Nat, t = (m : Int) := ⟨t.toNat, by unfold MayB at hmay; omega⟩
        refine (seal_yes l x0 m _ (opBs xs) W4 hl hmay.1 (by unfold MayB at hmay; omega) (blkA_list _ _) H56.out (opBs_allB HB.out)).mono ?_
        rintro e W5 ⟨v5, rfl, own5, hb5⟩
        obtain ⟨A5, d5, rfl, hle5, hd5, hy5⟩ := byt_own own5 (sealB_length H56.out)
        rw [sealB_length H56.out]
        have HE := Lib.hid (equal_any A5 (some ad) (sealB l x0 m (opBs xs)) xs 64 64 d5 c W5 (sealB_length H56.out) HN.out (sealB_allB hl hmay.1 (opBs_allB HB.out)) HB.out hy5 (HY4.out.keep hb5))
        have HM5 : Hid (W5.heap[w.heap.size + 1]? = some (.cells (blkA x0 (opBs xs)) 46 (0, 0))) := by
          unfold Hid; rw [hb5.block _ (room_lt HM4.out)]; exact HM4.out
        have HM05 : Hid (W5.heap[w.heap.size]? = some (.cells (blkA 0 zBs) 46 (0, 0))) := by
          unfold Hid; rw [hb5.block _ (room_lt HM04.out)]; exact HM04.out
        have HBL5 := Lib.hid (keepB HBL4.out hb5)
        have HMAY := Lib.hid hmay
        clear own5 hy5 hb5 hmay
        go_wp2_with fail
        refine HE.out.mono ?_
        rintro e W6 ⟨rfl, rfl⟩
        by_cases hq : sealB l x0 m (opBs xs) = xs
        · have hop : Opens l m xs := ⟨HN.out, by rw [HKX.out]; exact HMAY.out, by rw [HKX.out, Int.toNat_natCast]; exact hq⟩
          rw [decide_eq_true hq]
          have HOP := Lib.hid hop
          clear hop hq HE
          go_wp2_with (first
            | (refine wpList_loadB rfl (.tmp 8) rfl (w.heap.size + 1) rfl x0 (opBs xs) H56.out HM5.out ?_)
            | (refine wpList_storeB rfl (.tmp 6) (.tmp 37) rfl w.heap.size rfl x0 0 (opBs xs) zBs rfl H56.out zBs_len HM05.out ?_))
          simp only [Exit.jump]
          refine bodyPost_ret (results_blk rfl _ _ w.heap.size x0 (opBs xs) rfl H56.out (setRow_blk HM05.out)) rfl ?_
          refine ⟨?_, below_setRow HBL5.out (Nat.le_refl _) _⟩
          unfold openA
          rw [if_pos HOP.out, decide_eq_true HOP.out, HKX.out]
          rfl
        · have HQ := Lib.hid hq
          rw [decide_eq_false hq]
          clear hq HE
          go_wp2_with fail
          go_step3
          refine ⟨rfl, ⟨HBL5.out, HM05.out, fun h => HQ.out ?_⟩, _, _, _, _, _, _, _, _, _, _, _, _, _, _, _, _, _, _, _, _, _, _, _, _, _, _, _, _, _, _, _, _, _, _, _, _, _, _, rfl⟩
          have h3 := h.2.2
          rw [HKX.out, Int.toNat_natCast] at h3
          exact h3
      · refine (seal_no l x0 t _ (opBs xs) W4 hl (by constructor <;> omega) ht (blkA_list _ _) hmay).mono ?_
        rintro e W5 ⟨rfl, hb5⟩
        have HM05 : Hid (W5.heap[w.heap.size]? = some (.cells (blkA 0 zBs) 46 (0, 0))) := by
          unfold Hid; rw [hb5.block _ (room_lt HM04.out)]; exact HM04.out
        have HBL5 := Lib.hid (keepB HBL4.out hb5)
        have HMAY := Lib.hid hmay
        clear hb5 hmay
        go_wp2_with fail
        go_step3
        refine ⟨rfl, ⟨HBL5.out, HM05.out, fun h => HMAY.out ?_⟩, _, _, _, _, _, _, _, _, _, _, _, _, _, _, _, _, _, _, _, _, _, _, _, _, _, _, _, _, _, _, _, _, _, _, _, _, _, _, rfl⟩
        have h3 := h.2.1
        rw [HKX.out] at h3
        exact h3
    · go_wp2_with (first
        | (refine wpList_allocB rfl rfl ?_))
      go_step3
      refine ⟨rfl, ⟨HBL2.out, HM02.out, fun h => h64 (HN.out.symm.trans h.1)⟩, _, _, _, _, _, _, _, _, _, _, _, _, _, _, _, _, _, _, _, _, _, _, _, _, _, _, _, _, _, _, _, _, _, _, _, _, _, _, rfl⟩
  · rintro a' W ⟨HH, u0, u1, u2, u3, u4, u5, u7, u8, u9, u10, u11, u12, u13, u14, u15, u16, u17, u18, u19, u20, u21, u22, u23, u24, u25, u26, u27, u28, u29, u30, u31, u32, u33, u34, u35, u36, u37, u38, rfl⟩
    have hblk := HH.out.2.1
    go_wp2_with (first
      | (refine wpList_buildB0 rfl rfl ?_)
      | (refine wpList_storeB rfl (.tmp 6) (.tmp 38) rfl w.heap.size rfl 0 0 zBs zBs rfl zBs_len zBs_len hblk ?_))
    simp only [Exit.jump]
    refine bodyPost_ret (results_blk rfl _ _ w.heap.size 0 zBs rfl zBs_len (setRow_blk hblk)) rfl ?_
    refine ⟨?_, below_setRow HH.out.1 (Nat.le_refl _) _⟩
    unfold openA
    rw [if_neg HH.out.2.2, decide_eq_false HH.out.2.2]
    rfl
end Go.Proofs.Ytamnpblijdgdaaa

/- Contract: the reference's Open. -/
namespace Go.Proofs.Ytamnpblijdgdaaa
open Go.ChangeShapes Go.WideShapes Go.ChangeAt Go.RowKit
set_option linter.unusedVariables false
set_option maxRecDepth 100000
theorem built24k (x : Int) : Try.prog.built 46 [(0, .int .i64 x)] = some (blkA x zBs) := by kernel_rfl
theorem wpList_buildBk {ops : Array Oper} {rest : List Oper} {o : Oper} {a : Act} {w : World} {Q : Exit → Act → World → Prop} (hgd : o.guard = none) (x : Operand) (k : Int) (ho : o.op = .build 46 #[(0, x)]) (hx : a.eval x = .int .i64 k)
    (h : wpList Try.prog ops Q rest (a.put o.dst (.agg (blkA k zBs))) w) : wpList Try.prog ops Q (o :: rest) a w :=
  wpList_plain hgd fun _ hK => by
    unfold Oper.wp execOp
    have hb := run_build (P := Try.prog) w 46 #[(0, .int .i64 k)] _ (built24k k)
    simp only [ho, List.map_toArray, List.map_cons, List.map_nil, hx, Sem.run_bind, hb, Result.andThen_ok]
    exact hK _ _ h
/-- The first j bytes of a body, noughts behind. -/
def fillBs (bs : List Int) (j : Nat) : List Int := bs.take j ++ List.replicate (56 - j) 0
theorem fillBs_len {bs : List Int} {j : Nat} (h : bs.length = 56) (hj : j ≤ 56) : (fillBs bs j).length = 56 := by unfold fillBs; simp [h]; omega
theorem fillBs_all {bs : List Int} (h : bs.length = 56) : fillBs bs 56 = bs := by unfold fillBs; simp [← h]
theorem fillBs_none (bs : List Int) : fillBs bs 0 = zBs := rfl
theorem fillBs_set {bs : List Int} {j : Nat} {x : Int} (h : bs.length = 56) (hj : j < 56) (hx : bs[j]? = some x) : (fillBs bs j).set j x = fillBs bs (j + 1) := by
  unfold fillBs
  rw [show 56 - j = (56 - (j + 1)) + 1 by omega, List.replicate_succ, take_snoc' hx, List.set_append_right _ _ (by simp; omega)]
  simp only [List.length_take, h, Nat.min_eq_left (show j ≤ 56 by omega), Nat.sub_self, List.set_cons_zero, List.append_assoc, List.singleton_append]
theorem blkA_setB (k : Int) (bs : List Int) (j : Nat) (x : Int) : (blkA k bs).setIfInBounds (1 + j) (.int .u8 x) = blkA k (bs.set j x) := by
  unfold blkA blkL
  rw [Nat.add_comm]
  simp [← set_Bs]
theorem opBs_at {xs : List Int} {j : Nat} (hj : j < 56) {x : Int} (hx : xs[4 + j]? = some x) : (opBs xs)[j]? = some x := by
  unfold opBs; rw [List.getElem?_take, if_pos hj, List.getElem?_drop]; exact hx
end Go.Proofs.Ytamnpblijdgdaaa

/- Sums: a byte turned, or two unlike neighbours swapped, is another sum. Of no function. -/
namespace Go.Proofs.Ytamnpblijdgdaaa
set_option linter.unusedVariables false
set_option maxRecDepth 100000
def rawStep (s : Nat × Nat) (x : Int) : Nat × Nat := (s.1 + x.toNat, s.2 + (s.1 + x.toNat))
theorem rawStep_def (a c : Nat) (x : Int) : rawStep (a, c) x = (a + x.toNat, c + (a + x.toNat)) := rfl
theorem raw_mod : ∀ (l : List Int) (t : Nat × Nat), l.foldl sumStep (t.1 % 65521, t.2 % 65521) = ((l.foldl rawStep t).1 % 65521, (l.foldl rawStep t).2 % 65521)
  | [], _ => rfl
  | x :: l, t => by
    rw [List.foldl_cons, List.foldl_cons, ← raw_mod l (rawStep t x)]
    congr 1
    unfold sumStep rawStep
    dsimp only
    rw [Prod.mk.injEq]
    constructor <;> omega
theorem raw_shift : ∀ (l : List Int) (a c d e : Nat), (l.foldl rawStep (a + d, c + e)).1 = (l.foldl rawStep (a, c)).1 + d ∧ (d = 0 → (l.foldl rawStep (a + d, c + e)).2 = (l.foldl rawStep (a, c)).2 + e)
  | [], _, _, _, _ => ⟨rfl, fun _ => rfl⟩
  | x :: l, a, c, d, e => by
    rw [List.foldl_cons, List.foldl_cons, rawStep_def, rawStep_def]
    have h := raw_shift l (a + x.toNat) (c + (a + x.toNat)) d (e + d)
    rw [show a + d + x.toNat = a + x.toNat + d by omega, show c + e + (a + x.toNat + d) = c + (a + x.toNat) + (e + d) by omega]
    exact ⟨h.1, fun hd => by have := h.2 hd; omega⟩
theorem sumAC_raw (l : List Int) : sumAC l = ((l.foldl rawStep (1, 0)).1 % 65521, (l.foldl rawStep (1, 0)).2 % 65521) := raw_mod l (1, 0)
theorem sumV_eq {l m : List Int} : sumV l = sumV m ↔ sumAC l = sumAC m := by
  have h1 := sumAC_lt l
  have h2 := sumAC_lt m
  unfold sumV
  constructor
  · intro h
    exact Prod.ext (by omega) (by omega)
  · intro h; rw [h]
theorem split_at {l : List Int} {k : Nat} {x : Int} (h : l[k]? = some x) : l = l.take k ++ x :: l.drop (k + 1) := by
  obtain ⟨hk, hx⟩ := List.getElem?_eq_some_iff.1 h
  subst hx
  rw [List.getElem_cons_drop hk, List.take_append_drop]
theorem set_at {l : List Int} {k : Nat} {x y : Int} (h : l[k]? = some x) : l.set k y = l.take k ++ y :: l.drop (k + 1) := by
  obtain ⟨hk, hx⟩ := List.getElem?_eq_some_iff.1 h
  rw [List.set_eq_take_append_cons_drop, if_pos hk]
theorem turn_iff {l : List Int} {k : Nat} {x y : Int} (h : l[k]? = some x) (hx : 0 ≤ x ∧ x < 256) (hy : 0 ≤ y ∧ y < 256) : sumV (l.set k y) = sumV l ↔ y = x := by
  constructor
  · intro e
    rw [sumV_eq, sumAC_raw, sumAC_raw, set_at h] at e
    have h1 := congrArg Prod.fst e
    conv at h1 => rhs; rw [split_at h]
    simp only [List.foldl_append, List.foldl_cons] at h1
    generalize (l.take k).foldl rawStep (1, 0) = t at h1
    obtain ⟨t1, t2⟩ := t
    simp only [rawStep_def] at h1
    have a1 := (raw_shift (l.drop (k + 1)) t1 (t2 + t1) y.toNat y.toNat).1
    have a2 := (raw_shift (l.drop (k + 1)) t1 (t2 + t1) x.toNat x.toNat).1
    rw [Nat.add_assoc t2 t1] at a1 a2
    rw [a1, a2] at h1
    omega
  · intro e; subst e
    congr 1
    rw [set_at h]; exact (split_at h).symm
theorem swap_iff {l : List Int} {k : Nat} {x y : Int} (h : l[k]? = some x) (h' : l[k + 1]? = some y) (hx : 0 ≤ x ∧ x < 256) (hy : 0 ≤ y ∧ y < 256) : sumV ((l.set k y).set (k + 1) x) = sumV l ↔ x = y := by
  have e1 : l = l.take k ++ x :: y :: l.drop (k + 2) := by
    have := split_at h
    have h2 : l.drop (k + 1) = y :: l.drop (k + 2) := by
      obtain ⟨hk, hy'⟩ := List.getElem?_eq_some_iff.1 h'
      subst hy'
      rw [List.getElem_cons_drop hk]
    rwa [h2] at this
  have e2 : (l.set k y).set (k + 1) x = l.take k ++ y :: x :: l.drop (k + 2) := by
    have hk : k ≤ l.length := by have := (List.getElem?_eq_some_iff.1 h).1; omega
    have hl : (l.take k).length = k := List.length_take_of_le hk
    conv => lhs; rw [e1]
    rw [List.set_append_right _ _ (by omega), hl, Nat.sub_self, List.set_cons_zero, List.set_append_right _ _ (by omega), hl, show k + 1 - k = 1 by omega]
    rfl
  constructor
  · intro e
    rw [sumV_eq, sumAC_raw, sumAC_raw, e2] at e
    have h1 := congrArg Prod.snd e
    conv at h1 => rhs; rw [e1]
    simp only [List.foldl_append, List.foldl_cons] at h1
    generalize (l.take k).foldl rawStep (1, 0) = t at h1
    obtain ⟨t1, t2⟩ := t
    simp only [rawStep_def] at h1
    have a1 := (raw_shift (l.drop (k + 2)) (t1 + x.toNat + y.toNat) (t2 + t1 + t1 + x.toNat + y.toNat) 0 y.toNat).2 rfl
    have a2 := (raw_shift (l.drop (k + 2)) (t1 + x.toNat + y.toNat) (t2 + t1 + t1 + x.toNat + y.toNat) 0 x.toNat).2 rfl
    rw [show t1 + y.toNat + x.toNat = t1 + x.toNat + y.toNat + 0 by omega, show t2 + (t1 + y.toNat) + (t1 + x.toNat + y.toNat + 0) = t2 + t1 + t1 + x.toNat + y.toNat + y.toNat by omega,
      show t2 + (t1 + x.toNat) + (t1 + x.toNat + y.toNat) = t2 + t1 + t1 + x.toNat + y.toNat + x.toNat by omega, show (t1 + x.toNat + y.toNat, t2 + t1 + t1 + x.toNat + y.toNat + x.toNat) = (t1 + x.toNat + y.toNat + 0, t2 + t1 + t1 + x.toNat + y.toNat + x.toNat) from rfl, a1, a2] at h1
    omega
  · intro e; subst e
    congr 1
    rw [e2]; exact e1.symm
theorem turned_b {v1 v2 : Nat} {x y : Int} (h : v1 = v2 ↔ x = y) : (((v1 : Int) == (v2 : Int)) == (x == y)) = true := by
  by_cases e : x = y
  · have := h.2 e; subst e; subst this; simp
  · have h1 : ¬ v1 = v2 := fun h' => e (h.1 h')
    have h2 : ((v1 : Int) == (v2 : Int)) = false := by rw [beq_eq_false_iff_ne]; omega
    have h3 : (x == y) = false := by rw [beq_eq_false_iff_ne]; exact e
    rw [h2, h3]; rfl
end Go.Proofs.Ytamnpblijdgdaaa

/- Blocks compared; what is opened of what was sealed. -/
namespace Go.Proofs.Ytamnpblijdgdaaa
open Go.ChangeShapes Go.WideShapes Go.ChangeAt Go.RowKit
set_option linter.unusedVariables false
set_option maxRecDepth 100000
def u8s (bs : List Int) : List UInt8 := bs.map fun n => UInt8.ofNat n.toNat
theorem Bs_cell {bs : List Int} (h : AllB bs) : Bs bs = (u8s bs).map Extern.Stop.cell := by
  unfold Bs u8s
  rw [List.map_map]
  refine List.map_congr_left fun x hx => ?_
  have hb := h x hx
  simp only [Function.comp_apply, Extern.Stop.cell, UInt8.toNat_ofNat']
  congr 1
  show x = ((x.toNat % 256 : Nat) : Int)
  omega
theorem two_of {α : Type} : ∀ {l : List α}, l.length = 2 → ∃ a b, l = [a, b]
  | [a, b], _ => ⟨a, b, rfl⟩
  | [], h => by cases h
  | [_], h => by cases h
  | _ :: _ :: _ :: _, h => by simp at h
theorem opK_seal (l k : Int) (n : Nat) (bs : List Int) : opK (sealB l k n bs) = k := rfl
theorem opBs_seal {l k : Int} {n : Nat} {bs : List Int} (h : bs.length = 56) : opBs (sealB l k n bs) = bs := by
  show (bs ++ be (sumV (headB l k n bs)) 4).take 56 = bs
  rw [← h]; exact List.take_left
theorem seal_take {l k : Int} {n : Nat} {bs : List Int} (h : bs.length = 56) : (sealB l k n bs).take 60 = headB l k n bs := by
  unfold sealB; rw [← headB_length (l := l) (k := k) (t := n) h]; exact List.take_left
theorem seal_drop {l k : Int} {n : Nat} {bs : List Int} (h : bs.length = 56) : (sealB l k n bs).drop 60 = be (sumV (headB l k n bs)) 4 := by
  unfold sealB; rw [← headB_length (l := l) (k := k) (t := n) h]; exact List.drop_left
theorem opens_iff {l l' k : Int} {n m : Nat} {bs : List Int} (h : bs.length = 56) (hk : 0 ≤ k ∧ k ≤ 7) (hn : n < 200) (hm : m < 200) : Opens l' m (sealB l k n bs) ↔ l' = l ∧ m = n := by
  constructor
  · rintro ⟨_, _, h3⟩
    rw [opK_seal, opBs_seal h, Int.toNat_natCast] at h3
    have e1 : l' = l := by have := congrArg (fun x : List Int => x.getD 1 0) h3; exact this
    have e2 : be m 2 = be n 2 := by have := congrArg (fun x : List Int => (x.drop 2).take 2) h3; exact this
    exact ⟨e1, be2_inj (by omega) (by omega) e2⟩
  · rintro ⟨rfl, rfl⟩
    exact ⟨sealB_length h, by rw [opK_seal]; exact ⟨hk, by omega⟩, by rw [opK_seal, opBs_seal h, Int.toNat_natCast]⟩
theorem opens_turned {l k : Int} {n : Nat} {bs : List Int} (h : bs.length = 56) (hl : 0 ≤ l ∧ l ≤ 255) (hk : 0 ≤ k ∧ k ≤ 7) (hB : AllB bs) {i : Nat} {x y : Int} (hx : (sealB l k n bs)[i]? = some x) (hy : 0 ≤ y ∧ y < 256) (hne : y ≠ x) : ¬ Opens l n ((sealB l k n bs).set i y) := by
  rintro ⟨_, _, h3⟩
  have hi : i < 64 := by rw [← sealB_length (l := l) (k := k) (t := n) h]; exact (List.getElem?_eq_some_iff.1 hx).1
  have hxb := sealB_allB (t := n) hl hk hB x (List.mem_of_getElem? hx)
  have h56 : (opBs ((sealB l k n bs).set i y)).length = 56 := opBs_len (by rw [List.length_set, sealB_length h])
  rw [Int.toNat_natCast] at h3
  have t1 := congrArg (List.take 60) h3
  have t2 := congrArg (List.drop 60) h3
  rw [seal_take h56, List.take_set, seal_take h] at t1
  rw [seal_drop h56, t1] at t2
  by_cases h60 : i < 60
  · have hx' : (headB l k n bs)[i]? = some x := by rw [← seal_take h, List.getElem?_take, if_pos h60]; exact hx
    rw [List.drop_set_of_lt h60, seal_drop h] at t2
    exact hne ((turn_iff hx' hxb hy).1 (be4_inj (sumV_lt _) (sumV_lt _) t2))
  · have e : (headB l k n bs).set i y = headB l k n bs := List.set_eq_of_length_le (by rw [headB_length h]; omega)
    rw [e, ← seal_drop h] at t2
    have := congrArg (fun z : List Int => z[i - 60]?) t2
    simp only [List.getElem?_drop] at this
    rw [show 60 + (i - 60) = i by omega, hx, List.getElem?_set_self (by rw [sealB_length h]; exact hi)] at this
    injection this with this
    exact hne this.symm
theorem eql24 (k j : Int) (bs cs : List Int) (hb : bs.length = 56) (hc : cs.length = 56) (hB : AllB bs) (hC : AllB cs) (w : World) :
    (Op.equalIn 10000 46 (.agg (blkA k bs)) (.agg (blkA j cs))).run Try.prog w = .ok (decide (k = j ∧ bs = cs)) w := by
  have hS : Try.prog.underlying 46 = some (.struct (Try.prog.fieldsOf 46)) := by kernel_rfl
  have hp : Try.prog.stoodInHeld 46 = false := by kernel_rfl
  have u3 := Try.underlying3
  have a3 := Try.isAgg3
  have z3 := Try.sizeOf3
  have a22 := Try.isAgg44
  have z22 := Try.sizeOf44
  rw [show (10000 : Nat) = 9999 + 1 from rfl, run_equalIn_struct w 9999 46 _ _ hS hp]
  clear hS hp
  have p1 : ∀ (k : Int) (bs : List Int) w, bs.length = 56 → (part 44 (blkA k bs) 1).run Try.prog w = .ok (.agg (Bs bs).toArray) w := fun k bs w h => by
    have e : (blkA k bs).extract 1 57 = (Bs bs).toArray := by
      have hl : (Bs bs).length = 56 := by rw [Bs_length, h]
      unfold blkA blkL
      simp [← hl]
    simp [part, a22, z22, e, blkA_size h]
  have p0 : ∀ (k : Int) (bs : List Int) w, (part 3 (blkA k bs) 0).run Try.prog w = .ok (.int .i64 k) w := fun k bs w => by
    simp [part, a3, blkA, blkL]
  have he : ∀ w, (Op.equalIn 9999 44 (.agg (Bs bs).toArray) (.agg (Bs cs).toArray)).run Try.prog w = .ok (decide (bs = cs)) w := fun w => by
    have h := run_equalIn_bytes (P := Try.prog) w 9997 44 5 56 Try.underlying44 Try.underlying5 (fun w => Try.sizeOf5 w) (u8s bs) (u8s cs) (by unfold u8s; simp [hb]) (by unfold u8s; simp [hc])
    rw [← Bs_cell hB, ← Bs_cell hC] at h
    rw [show (9999 : Nat) = 9997 + 2 from rfl, h]
    congr 1
    rw [Bool.eq_iff_iff]
    simp only [beq_iff_eq, decide_eq_true_eq]
    exact ⟨map_byte_inj hB hC, fun h => by rw [h]⟩
  have hf : (Try.prog.fieldsOf 46).toList.map (fun f => (f.name, f.type, f.offset)) = [("Kind", 3, 0), ("Body", 44, 1)] := by kernel_rfl
  revert hf
  generalize (Try.prog.fieldsOf 46).toList = fs
  intro hf
  obtain ⟨f0, f1, rfl⟩ := two_of (show fs.length = 2 by simpa using congrArg List.length hf)
  simp only [List.map_cons, List.map_nil, List.cons.injEq, Prod.mk.injEq, and_true] at hf
  obtain ⟨⟨n0, t0, o0⟩, ⟨n1, t1, o1⟩⟩ := hf
  have q0 : ∀ (k : Int) (bs : List Int) w, (part f0.type (blkA k bs) f0.offset).run Try.prog w = .ok (.int .i64 k) w := fun k bs w => by rw [t0, o0]; exact p0 k bs w
  have q1 : ∀ (k : Int) (bs : List Int) w, bs.length = 56 → (part f1.type (blkA k bs) f1.offset).run Try.prog w = .ok (.agg (Bs bs).toArray) w := fun k bs w h => by rw [t1, o1]; exact p1 k bs w h
  have e0 : ∀ w, (Op.equalIn 9999 f0.type (.int .i64 k) (.int .i64 j)).run Try.prog w = .ok (k == j) w := fun w => by
    rw [t0]; exact run_equalIn_int (P := Try.prog) w 9998 3 .i64 .i64 k j Try.underlying3
  have e1 : ∀ w, (Op.equalIn 9999 f1.type (.agg (Bs bs).toArray) (.agg (Bs cs).toArray)).run Try.prog w = .ok (decide (bs = cs)) w := fun w => by
    rw [t1]; exact he w
  have m0 : f0.name ≠ "_" := by rw [n0]; decide
  have m1 : f1.name ≠ "_" := by rw [n1]; decide
  clear p0 p1 he n0 t0 o0 n1 t1 o1 u3 a3 z3 a22 z22
  simp only [Op.eqFields, if_pos m0, if_pos m1, Sem.run_bind, q0, Result.andThen_ok, e0]
  by_cases hk : k = j
  · subst hk
    by_cases hq : bs = cs
    · subst hq; simp [e1, Sem.run_bind, q1 _ _ _ hb]
    · simp [e1, Sem.run_bind, q1 _ _ _ hb, q1 _ _ _ hc, hq]
  · simp [hk]
end Go.Proofs.Ytamnpblijdgdaaa

/- Contract: the law's opening test. -/
namespace Go.Proofs.Ytamnpblijdgdaaa
open Go.ChangeShapes Go.WideShapes Go.ChangeAt Go.RowKit
set_option linter.unusedVariables false
set_option maxRecDepth 100000
theorem zBs_allB : AllB zBs := fun x hx => by unfold zBs at hx; rw [List.eq_of_mem_replicate hx]; omega
theorem set_allB {bs : List Int} (h : AllB bs) (i : Nat) {y : Int} (hy : 0 ≤ y ∧ y < 256) : AllB (bs.set i y) := fun x hx => by
  rcases List.mem_or_eq_of_mem_set hx with h1 | rfl
  · exact h x h1
  · exact hy
theorem loadAt_blk (w : World) (g : Nat) (k : Int) (bs : List Int) (h56 : bs.length = 56) (hg : w.heap[g]? = some (.cells (blkA k bs) 46 (0, 0))) :
    (Instr.loadAt 46 (.pointer (some ⟨g, 0, none⟩))).run Try.prog w = .ok (.agg (blkA k bs)) w := by
  simp only [Instr.loadAt, Instr.sureAddr, Sem.run_bind, Sem.run_pure, Result.andThen_ok]
  exact run_loadVar_row w g _ _ _ _ _ hg Try.underlying46 rfl (by rw [blkA_size h56]; exact size24b)
section
variable {ops : Array Oper} {rest : List Oper} {o : Oper} {a : Act} {w : World} {Q : Exit → Act → World → Prop}
theorem wpList_loadBw (hw : Region.wanted o (yielded ops a.tmps) = true) (x : Operand) (ho : o.op = .load 46 x) (g : Nat) (hx : a.eval x = .pointer (some ⟨g, 0, none⟩)) (k : Int) (bs : List Int) (h56 : bs.length = 56) (hg : w.heap[g]? = some (.cells (blkA k bs) 46 (0, 0)))
    (h : wpList Try.prog ops Q rest (a.put o.dst (.agg (blkA k bs))) w) : wpList Try.prog ops Q (o :: rest) a w :=
  BigFrame.wpList_want hw fun _ hK => wp_load_row 46 x ho g hx _ _ _ _ hg Try.underlying46 rfl (by rw [blkA_size h56]; exact size24b) (hK _ _ h)
theorem guard24 : Try.prog.eqGuardType Try.prog.depth 46 = false := by kernel_rfl
theorem wpList_eqlBw (hw : Region.wanted o (yielded ops a.tmps) = true) (x y : Operand) (t : TypeId) (ho : o.op = .binOp .eql 46 x y t) (k j : Int) (bs cs : List Int) (hx : a.eval x = .agg (blkA k bs)) (hy : a.eval y = .agg (blkA j cs)) (hb : bs.length = 56) (hc : cs.length = 56) (hB : AllB bs) (hC : AllB cs)
    (h : wpList Try.prog ops Q rest (a.put o.dst (.bool (decide (k = j ∧ bs = cs)))) w) : wpList Try.prog ops Q (o :: rest) a w :=
  BigFrame.wpList_want hw fun _ hK => by
    have hg := run_eqGuard_agg (P := Try.prog) w .eql 46 x y (blkA k bs) (blkA j cs) guard24
    have hr := run_eql_struct (P := Try.prog) w 46 (blkA k bs) (blkA j cs)
    rw [eql24 k j bs cs hb hc hB hC w] at hr
    unfold Oper.wp execOp
    simp only [ho, hx, hy, Sem.run_bind, hg, hr, Result.andThen_ok]
    exact hK _ _ h
end
end Go.Proofs.Ytamnpblijdgdaaa

/- Blocks, bodies as arguments by value, opened. -/
namespace Go.Proofs.Ytamnpblijdgdaaa
open Go.ChangeShapes Go.WideShapes Go.ChangeAt Go.RowKit
set_option linter.unusedVariables false
set_option maxRecDepth 100000
section
variable {H : Type} {enc : TypeId × Value → H} {w : World} {base : Nat} {spare : Nat → Bool} {held : Bool}
theorem cells22 : Try.prog.cellsOf 44 = 56 := by kernel_rfl
theorem cells24 : Try.prog.cellsOf 46 = 57 := by kernel_rfl
theorem cells3b : Try.prog.cellsOf 3 = 1 := by kernel_rfl
theorem take_one {α : Type} {l : List α} {i : Nat} {x : α} (h : (l.drop i).take 1 = [x]) : l[i]? = some x := by
  have : ((l.drop i).take 1)[0]? = some x := by rw [h]; rfl
  rw [List.getElem?_take, if_pos (by omega), List.getElem?_drop] at this
  exact this
theorem open_body {fuel : Nat} {cs : List Value} {x : DataW H × List MemPlace} (h : DataW.trod enc Try.prog w base spare held fuel 44 cs = some x) :
    ∃ bs : List Int, cs = Bs bs ∧ bs.length = 56 ∧ AllB bs := by
  obtain ⟨ys, m, _, rfl, hl, hys, hel⟩ := DataW.trod_array Try.underlying44 h
  rw [cells22] at hl
  have leaf : ∀ i, i < 56 → ∃ n : Int, cs[i]? = some (.int .u8 n) ∧ 0 ≤ n ∧ n < 256 := fun i hi => by
    have h1 := hel i hi
    rw [cells5', Nat.mul_one] at h1
    obtain ⟨y, hy⟩ : ∃ y, ys[i]? = some y := ⟨_, List.getElem?_eq_getElem (by omega)⟩
    rw [hy] at h1
    obtain ⟨n, e, _, hwf⟩ := DataW.trod_int Try.underlying5 h1
    have := bounds_u8 hwf
    exact ⟨n, take_one e, by omega, by omega⟩
  refine ⟨cs.map intOf, ?_, by simpa using hl, fun x hx => ?_⟩
  · apply List.ext_getElem?
    intro i
    by_cases hi : i < 56
    · obtain ⟨n, e, _⟩ := leaf i hi
      unfold Bs
      rw [List.getElem?_map, List.getElem?_map, e]; rfl
    · rw [List.getElem?_eq_none (by omega), List.getElem?_eq_none (by rw [Bs_length]; simp; omega)]
  · obtain ⟨v, hv, rfl⟩ := List.mem_map.1 hx
    obtain ⟨i, hi⟩ := List.getElem?_of_mem hv
    have hlt := (List.getElem?_eq_some_iff.1 hi).1
    obtain ⟨n, e, h1⟩ := leaf i (by omega)
    rw [e] at hi
    injection hi with hi
    subst hi
    exact h1
theorem open_blk {fuel : Nat} {cs : List Value} {x : DataW H × List MemPlace} (h : DataW.trod enc Try.prog w base spare held fuel 46 cs = some x) :
    ∃ (k : Int) (bs : List Int), cs = blkL k bs ∧ bs.length = 56 ∧ i64 k ∧ AllB bs := by
  have hS : Try.prog.underlying 46 = some (.struct (Try.prog.fieldsOf 46)) := by kernel_rfl
  obtain ⟨ys, m, _, rfl, hl, hys, hel⟩ := DataW.trod_struct hS h
  rw [cells24] at hl
  have hf : (Try.prog.fieldsOf 46).toList.map (fun f => (f.type, f.offset)) = [(3, 0), (44, 1)] := by kernel_rfl
  have hsz : (Try.prog.fieldsOf 46).size = 2 := by kernel_rfl
  obtain ⟨f0, f1, hfs⟩ := two_of (show (Try.prog.fieldsOf 46).toList.length = 2 by simpa using hsz)
  rw [hfs] at hf
  simp only [List.map_cons, List.map_nil, List.cons.injEq, Prod.mk.injEq, and_true] at hf
  obtain ⟨⟨t0, o0⟩, ⟨t1, o1⟩⟩ := hf
  have h0 := hel 0 f0 (by rw [← Array.getElem?_toList, hfs]; rfl)
  have h1 := hel 1 f1 (by rw [← Array.getElem?_toList, hfs]; rfl)
  rw [t0, o0] at h0
  rw [t1, o1] at h1
  rw [hsz] at hys
  obtain ⟨y0, hy0⟩ : ∃ y, ys[0]? = some y := ⟨_, List.getElem?_eq_getElem (by omega)⟩
  obtain ⟨y1, hy1⟩ : ∃ y, ys[1]? = some y := ⟨_, List.getElem?_eq_getElem (by omega)⟩
  rw [hy0] at h0
  rw [hy1] at h1
  obtain ⟨k, e0, _, hwf⟩ := DataW.trod_int Try.underlying3 h0
  obtain ⟨bs, e1, h56, hB⟩ := open_body h1
  rw [show Try.prog.cellsOf (3) = 1 from cells3b] at e0
  rw [show Try.prog.cellsOf (44) = 56 from cells22] at e1
  have c0 := take_one e0
  refine ⟨k, bs, ?_, h56, ?_, hB⟩
  · unfold blkL
    cases cs with
    | nil => cases c0
    | cons v l =>
      have hv : v = .int .i64 k := by simpa using c0
      have : (l.take 56) = Bs bs := e1
      rw [hv, ← this, List.take_of_length_le (by simp at hl; omega)]
  · have := bounds_i64 hwf
    constructor <;> omega
end
theorem okWide_row {P : Program} {w : World} {r : Reach} {base : Nat} {t e : TypeId} {n : Nat} {v : Value} (ht : P.underlying t = some (.array n e)) (h : Value.okWide P w r base t v) : ∃ cs, v = .agg cs ∧ cs.size = P.cellsOf t := by
  simp only [Value.okWide, ht] at h
  obtain ⟨cs, h1, h2, _⟩ := h
  exact ⟨cs, h1, h2⟩
/-- The bytes of a Seal, none where there is none. -/
def sealX (l k t : Int) (bs : List Int) : List Int := if MayB k t then sealB l k t.toNat bs else []
theorem sealX_allB {l k t : Int} {bs : List Int} (hl : 0 ≤ l ∧ l ≤ 255) (hB : AllB bs) : AllB (sealX l k t bs) := by
  unfold sealX
  split
  · rename_i h; exact sealB_allB hl h.1 hB
  · exact fun x hx => by cases hx
def SealE (l k t : Int) (bs : List Int) (B : Nat) (w : World) (e : Ending) (w' : World) : Prop :=
  ∃ A d, e = .returned (.tuple #[.slice A (sealX l k t bs).length d, .bool (decide (MayB k t))]) ∧ Byt w' A (sealX l k t bs) ∧ (sealX l k t bs).length ≤ d ∧ d ≤ 9223372036854775807 ∧ Below w.heap.size w w'
theorem seal_any (l k t : Int) (bs : List Int) (w : World) (hl : 0 ≤ l ∧ l ≤ 255) (hk : i64 k) (ht : i64 t) (h56 : bs.length = 56) (hB : AllB bs) :
    Calls Try.prog 60 #[.int .u8 l, .int .i64 t, .agg (blkA k bs)] w fun e w' => SealE l k t bs w.heap.size w e w' := by
  unfold SealE sealX
  by_cases h : MayB k t
  · obtain ⟨m, rfl⟩ : ∃ m : Nat, t = (m : Int) := ⟨t.toNat, by unfold MayB at h; omega⟩
    refine (seal_yes l k m _ bs w hl h.1 (by unfold MayB at h; omega) (blkA_list _ _) h56 hB).mono ?_
    rintro e w' ⟨v, rfl, own, hb⟩
    obtain ⟨A, d, rfl, h1, h2, h3⟩ := byt_own own (sealB_length h56)
    rw [if_pos h, decide_eq_true h, Int.toNat_natCast]
    exact ⟨A, d, rfl, h3, h1, h2, hb⟩
  · refine (seal_no l k t _ bs w hl hk ht (blkA_list _ _) h).mono ?_
    rintro e w' ⟨rfl, hb⟩
    rw [if_neg h, decide_eq_false h]
    exact ⟨none, 0, rfl, (fun i x hi => by cases hi), Nat.le_refl _, by omega, hb⟩
theorem kb {W W' : World} {g : Nat} {o : Obj} (hb : Below W.heap.size W W') (h : W.heap[g]? = some o) : W'.heap[g]? = some o := by rw [hb.block _ (room_lt h)]; exact h
end Go.Proofs.Ytamnpblijdgdaaa

/- A block built out of a kind and a body. -/
namespace Go.Proofs.Ytamnpblijdgdaaa
open Go.ChangeShapes Go.WideShapes Go.ChangeAt Go.RowKit
set_option linter.unusedVariables false
set_option maxRecDepth 100000
theorem size22 : (Try.prog.info? 44).map (·.size) = some 56 := by kernel_rfl
theorem splice_kind (k : Int) (bs : List Int) : splice (blkL 0 bs) 0 [.int .i64 k] = blkL k bs := by unfold splice blkL; simp
theorem splice_body (k : Int) (zs bs : List Int) (hz : zs.length = 56) (hb : bs.length = 56) : splice (blkL k zs) 1 (Bs bs) = blkL k bs := by
  unfold splice blkL
  rw [Bs_length, hb, List.drop_of_length_le (by simp [Bs_length, hz])]
  simp
theorem built24kb (k : Int) (bs : List Int) (hb : bs.length = 56) : Try.prog.built 46 [(0, .int .i64 k), (1, .agg (Bs bs).toArray)] = some (blkA k bs) := by
  have hS : Try.prog.underlying 46 = some (.struct (Try.prog.fieldsOf 46)) := by kernel_rfl
  obtain ⟨i0, hi, hz0, hz1, hz2⟩ := info_parts info24
  have hpl : (Try.prog.fieldsOf 46).toList.mapM (fun f => (Try.prog.info? f.type).map fun i => (f.offset, i.size)) = some [(0, 1), (1, 56)] := by kernel_rfl
  unfold Program.built
  rw [hi, hS]
  dsimp only
  rw [hz0, hpl]
  dsimp only
  rw [fill_cons (off := 0) (size := 1) rfl rfl (by show 0 + 1 ≤ (blkA 0 zBs).size; rw [blkA_size zBs_len]; decide)]
  rw [fill_cons (off := 1) (size := 56) rfl (by simp [Value.cells, Bs_length, hb]) (by
    simp only [List.size_toArray]
    show 1 + 56 ≤ (splice (blkA 0 zBs).toList 0 [Value.int .i64 k]).length
    rw [blkA_list, splice_kind]; simp [blkL, Bs_length, zBs_len])]
  unfold Instr.fill
  congr 1
  show (splice (splice (blkA 0 zBs).toList 0 [Value.int .i64 k]).toArray.toList 1 (Bs bs).toArray.toList).toArray = _
  rw [blkA_list, splice_kind, List.toList_toArray, List.toList_toArray, splice_body k zBs bs zBs_len hb]
  rfl
section
variable {ops : Array Oper} {rest : List Oper} {o : Oper} {a : Act} {w : World} {Q : Exit → Act → World → Prop}
theorem wpList_buildBkb (hgd : o.guard = none) (x y : Operand) (k : Int) (bs : List Int) (hb : bs.length = 56) (ho : o.op = .build 46 #[(0, x), (1, y)]) (hx : a.eval x = .int .i64 k) (hy : a.eval y = .agg (Bs bs).toArray)
    (h : wpList Try.prog ops Q rest (a.put o.dst (.agg (blkA k bs))) w) : wpList Try.prog ops Q (o :: rest) a w :=
  wpList_plain hgd fun _ hK => by
    unfold Oper.wp execOp
    have hb := run_build (P := Try.prog) w 46 #[(0, .int .i64 k), (1, .agg (Bs bs).toArray)] _ (built24kb k bs hb)
    simp only [ho, List.map_toArray, List.map_cons, List.map_nil, hx, hy, Sem.run_bind, hb, Result.andThen_ok]
    exact hK _ _ h
theorem wpList_loadRow (hgd : o.guard = none) (x : Operand) (ho : o.op = .load 44 x) (g : Nat) (hx : a.eval x = .pointer (some ⟨g, 0, none⟩)) (bs : List Int) (h56 : bs.length = 56) (hg : w.heap[g]? = some (.cells (Bs bs).toArray 44 (0, 0)))
    (h : wpList Try.prog ops Q rest (a.put o.dst (.agg (Bs bs).toArray)) w) : wpList Try.prog ops Q (o :: rest) a w :=
  wpList_load_row hgd 44 x ho g hx _ _ _ _ hg Try.underlying44 rfl (by simp only [List.size_toArray, Bs_length, h56]; exact size22) h
end
theorem xor_byte {a b : Int} (ha : 0 ≤ a ∧ a < 256) (hb : 0 ≤ b ∧ b ≤ 255) : (0 ≤ bits .xor .u8 a b ∧ bits .xor .u8 a b < 256) ∧ (bits .xor .u8 a b = a ↔ b = 0) := by
  rw [u8_xor a b ha.1 ha.2 hb.1 (by omega)]
  have hlt : a.toNat ^^^ b.toNat < 2 ^ 8 := Nat.xor_lt_two_pow (by omega) (by omega)
  refine ⟨⟨by omega, by omega⟩, fun h => ?_, fun h => ?_⟩
  · have h1 : a.toNat ^^^ b.toNat = a.toNat := by omega
    have h2 := congrArg (a.toNat ^^^ ·) h1
    simp only [← Nat.xor_assoc, Nat.xor_self, Nat.zero_xor] at h2
    omega
  · subst h; simp; omega
theorem set_same {l : List Int} {k : Nat} {x : Int} (h : l[k]? = some x) : l.set k x = l := (set_at h).trans (split_at h).symm
theorem openA_blk (l t : Int) {xs : List Int} (h : AllB xs) : ∃ k bs, openA l t xs = blkA k bs ∧ bs.length = 56 ∧ AllB bs := by
  unfold openA
  split
  · rename_i h1; exact ⟨_, _, rfl, opBs_len h1.1, opBs_allB h⟩
  · exact ⟨_, _, rfl, zBs_len, zBs_allB⟩
end Go.Proofs.Ytamnpblijdgdaaa
