/- Blocks as rows of numbers; contracts: block.number, the reference's High. -/
import Derived.Test.YtflldlhfeiamnaaS1
import Derived.Test.YtflldlhfeiamnaaK4
import Derived.Test.YtflldlhfeiamnaaJ
import Derived.IntWalk
namespace Go.Proofs.Ytflldlhfeiamnaa
open Go.ChangeShapes Go.WideShapes Go.ChangeAt Go.RowKit
set_option linter.unusedVariables false
/-- A number in so many bytes, the highest first. -/
def be (n : Nat) : Nat → List Int
  | 0 => []
  | s + 1 => ((n / 256 ^ s % 256 : Nat) : Int) :: be n s
theorem be_length (n : Nat) : ∀ s, (be n s).length = s
  | 0 => rfl
  | s + 1 => by show (be n s).length + 1 = s + 1; rw [be_length n s]
theorem be_allB (n : Nat) : ∀ s, AllB (be n s)
  | 0 => fun x hx => by cases hx
  | s + 1 => fun x hx => by
    rcases List.mem_cons.1 hx with rfl | h
    · have := Nat.mod_lt (n / 256 ^ s) (show 0 < 256 by omega); omega
    · exact be_allB n s x h
theorem be2_inj {a b : Nat} (ha : a < 65536) (hb : b < 65536) (h : be a 2 = be b 2) : a = b := by
  unfold be be be at h
  simp only [List.cons.injEq, Nat.pow_succ, Nat.pow_zero, Nat.one_mul, Nat.div_one, and_true] at h
  omega
theorem be4_eq (n : Nat) : be n 4 = [((n / 16777216 % 256 : Nat) : Int), ((n / 65536 % 256 : Nat) : Int), ((n / 256 % 256 : Nat) : Int), ((n / 1 % 256 : Nat) : Int)] := rfl
theorem be2_eq (n : Nat) : be n 2 = [((n / 256 % 256 : Nat) : Int), ((n / 1 % 256 : Nat) : Int)] := rfl
set_option maxRecDepth 100000 in
theorem be4_inj {a b : Nat} (ha : a < 4294967296) (hb : b < 4294967296) (h : be a 4 = be b 4) : a = b := by
  rw [be4_eq, be4_eq] at h
  have h1 := Int.ofNat.inj (List.cons.inj h).1
  have h2 := Int.ofNat.inj (List.cons.inj (List.cons.inj h).2).1
  have h3 := Int.ofNat.inj (List.cons.inj (List.cons.inj (List.cons.inj h).2).2).1
  have h4 := Int.ofNat.inj (List.cons.inj (List.cons.inj (List.cons.inj (List.cons.inj h).2).2).2).1
  clear h
  rw [Nat.div_one, Nat.div_one] at h4
  have ea := Nat.div_add_mod a 256
  have eb := Nat.div_add_mod b 256
  have ea2 : a / 65536 = a / 256 / 256 := by rw [Nat.div_div_eq_div_mul]
  have eb2 : b / 65536 = b / 256 / 256 := by rw [Nat.div_div_eq_div_mul]
  have ea3 : a / 16777216 = a / 256 / 256 / 256 := by rw [Nat.div_div_eq_div_mul, Nat.div_div_eq_div_mul]
  have eb3 : b / 16777216 = b / 256 / 256 / 256 := by rw [Nat.div_div_eq_div_mul, Nat.div_div_eq_div_mul]
  have la : a / 16777216 < 256 := Nat.div_lt_of_lt_mul ha
  have lb : b / 16777216 < 256 := Nat.div_lt_of_lt_mul hb
  rw [Nat.mod_eq_of_lt la, Nat.mod_eq_of_lt lb, ea3, eb3] at h1
  rw [ea2, eb2] at h2
  generalize a / 256 = a1 at *
  generalize b / 256 = b1 at *
  have f1 := Nat.div_add_mod a1 256
  have f2 := Nat.div_add_mod b1 256
  have f3 := Nat.div_add_mod (a1 / 256) 256
  have f4 := Nat.div_add_mod (b1 / 256) 256
  rw [h1, h2] at f3
  have f5 : a1 / 256 = b1 / 256 := f3.symm.trans f4
  rw [f5, h3] at f1
  have f6 : a1 = b1 := f1.symm.trans f2
  rw [f6, h4] at ea
  exact ea.symm.trans eb
theorem AllB.append {xs ys : List Int} (hx : AllB xs) (hy : AllB ys) : AllB (xs ++ ys) := fun x h => (List.mem_append.1 h).elim (hx x) (hy x)
theorem drop_set_here {α : Type} (l : List α) (k : Nat) (x : α) (h : k < l.length) : (l.set k x).drop k = x :: l.drop (k + 1) := by
  induction l generalizing k with
  | nil => cases h
  | cons y l ih =>
    cases k with
    | zero => rfl
    | succ k => exact ih k (by simpa using h)
theorem size_alloc' (W : World) (o : Obj) : (W.alloc o).heap.size = W.heap.size + 1 := by show (W.heap.push o).size = _; simp
theorem div_pow (v m : Nat) : v / 256 ^ m / 256 = v / 256 ^ (m + 1) := by rw [Nat.div_div_eq_div_mul, Nat.pow_succ]
set_option maxRecDepth 100000 in
set_option maxHeartbeats 1600000 in
theorem high1_any (v n : Nat) (w : World) (hv : v < 18446744073709551616) (hn : n ≤ 8) :
    Calls Try.prog 24 #[.int .u64 v, .int .i64 n] w fun e w' => ∃ v', e = .returned v' ∧ w'.ownsRow w.heap.size 5 1 v' n (Bs (be v n)) ∧ Below w.heap.size w w' := by
  obtain ⟨i0, hi, hz0, hz1, hz2⟩ := info_parts info5
  have hmk := fun w : World => run_make (P := Try.prog) w 25 5 i0 _ Try.underlying25 hi hz0 .i64 .i64 (n : Int) (n : Int) (by omega) (by omega) (by rw [hz2]; omega) (by omega)
  generalize hC : madeCells (Value.int .u8 0).cells ((n : Int).toNat * i0.size) = C0 at hmk
  have HC : Hid (C0.size = n) := by rw [← hC, size_madeCells, hz1]; unfold Hid; simp
  rw [show ((n : Int)).toNat = n by omega] at hmk
  clear hC hi hz0 hz1 hz2
  have HB0 : Hid (∀ C, Below w.heap.size w (w.alloc (Obj.cells C 5))) := fun C => (Below.refl _ _).alloc (Nat.le_refl _) _
  go_enter Try.func24, Try.ntmps24
  go_wp2
  have hblk0 := heap_alloc_new w (Obj.cells C0 5)
  have hbel0 := HB0.out C0
  have HV := Lib.hid hv
  generalize w.alloc (Obj.cells C0 5) = W0 at *
  have HS : Hid (w.heap.size = w.heap.size) := rfl
  generalize hg : w.heap.size = g at *
  clear hmk HB0 hv
  go_loopw [0, 6] (fun z i wr => ∃ (j : Nat) (C : Array Value) (x : Nat), i = .int .i64 ((j : Int) - 1) ∧ z = .int .u64 x ∧ j ≤ n ∧ x = v / 256 ^ (n - j) ∧ wr.heap[g]? = some (.cells C 5 (0, 0)) ∧ C.size = n ∧ C.toList.drop j = Bs (be v (n - j)) ∧ Below g w wr) (fun _ i _ => (intOf i + 1).toNat)
  case atStart =>
    refine ⟨n, C0, v, rfl, rfl, Nat.le_refl _, by simp, hblk0, HC.out, ?_, hbel0⟩
    rw [Nat.sub_self, List.drop_of_length_le (by rw [Array.length_toList, HC.out]; omega)]; rfl
  case round =>
    obtain ⟨j, C, x, rfl, rfl, hj, hx, hblk, hsz, hl, hbel⟩ := hrel
    have HX := Lib.hid hx
    have HBK := Lib.hid hblk
    have HL := Lib.hid hl
    have hxv : x < 18446744073709551616 := by rw [hx]; exact Nat.lt_of_le_of_lt (Nat.div_le_self _ _) HV.out
    clear hx hblk hl hblk0
    by_cases hj0 : j = 0
    · subst hj0
      go_wp2
      go_ret
      refine ⟨_, rfl, ⟨by rw [Bs_length, be_length]; omega, Or.inr ⟨g, n, C, rfl, Nat.le_refl _, HBK.out, Nat.le_refl _, by simp only [maxLen]; omega, by omega, ?_⟩⟩, hbel⟩
      have h := HL.out
      rw [List.drop_zero, Nat.sub_zero] at h
      rw [List.take_of_length_le (by simp [hsz]), h]
    · obtain ⟨k, rfl⟩ : ∃ k, j = k + 1 := ⟨j - 1, by omega⟩
      have hk : ((k + 1 : Nat) : Int) - 1 = k := by omega
      rw [hk]
      obtain ⟨u, hu⟩ : ∃ u, C[k]? = some u := ⟨_, Array.getElem?_eq_getElem (by rw [hsz]; omega)⟩
      have c0 : wr.cell? ⟨g, k, none⟩ = some u := (blk_cell HBK.out k).trans hu
      have f0 : wr.frozen? ⟨g, k, none⟩ = false := blk_free HBK.out k
      clear hu hk
      go_wp2
      go_roundw
      case rel =>
        refine ⟨k, _, x / 256, by go_num, by go_num, by omega, ?_, heap_setCell_same' HBK.out _, by simp [hsz], ?_, hbel.setCell (Nat.le_refl _) _⟩
        · rw [HX.out, div_pow, show n - (k + 1) + 1 = n - k by omega]
        · rw [Array.toList_setIfInBounds, show n - k = (n - (k + 1)) + 1 by omega]
          show _ = Bs (((v / 256 ^ (n - (k + 1)) % 256 : Nat) : Int) :: be v (n - (k + 1)))
          rw [← HX.out]
          rw [drop_set_here _ _ _ (by simp [hsz]; omega), HL.out]
          unfold Bs
          rw [List.map_cons]
          congr 1
          try simp
      case measure => simp [intOf]
end Go.Proofs.Ytflldlhfeiamnaa
