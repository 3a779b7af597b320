/- Numbers in bytes, the highest first; contracts: the reference's High and Num. (Block's, rec's texts joined: for seats that have neither.) -/
import Derived.Test.YtcmmopngjeonfaaK4
import Derived.IntWalk
import Derived.Laws.BitsAllLaws
namespace Go.Proofs.Ytcmmopngjeonfaa
open Go.ChangeShapes Go.WideShapes Go.ChangeAt Go.RowKit
set_option linter.unusedVariables false
/-- A number in so many bytes, the highest first. -/
def be (n : Nat) : Nat → List Int
  | 0 => []
  | s + 1 => ((n / 256 ^ s % 256 : Nat) : Int) :: be n s
theorem be_length (n : Nat) : ∀ s, (be n s).length = s
  | 0 => rfl
  | s + 1 => by show (be n s).length + 1 = s + 1; rw [be_length n s]
theorem be_allB (n : Nat) : ∀ s, AllB (be n s)
  | 0 => fun x hx => by cases hx
  | s + 1 => fun x hx => by
    rcases List.mem_cons.1 hx with rfl | h
    · have := Nat.mod_lt (n / 256 ^ s) (show 0 < 256 by omega); omega
    · exact be_allB n s x h
theorem be2_inj {a b : Nat} (ha : a < 65536) (hb : b < 65536) (h : be a 2 = be b 2) : a = b := by
  unfold be be be at h
  simp only [List.cons.injEq, Nat.pow_succ, Nat.pow_zero, Nat.one_mul, Nat.div_one, and_true] at h
  omega
theorem be4_eq (n : Nat) : be n 4 = [((n / 16777216 % 256 : Nat) : Int), ((n / 65536 % 256 : Nat) : Int), ((n / 256 % 256 : Nat) : Int), ((n / 1 % 256 : Nat) : Int)] := rfl
theorem be2_eq (n : Nat) : be n 2 = [((n / 256 % 256 : Nat) : Int), ((n / 1 % 256 : Nat) : Int)] := rfl
set_option maxRecDepth 100000 in
theorem be4_inj {a b : Nat} (ha : a < 4294967296) (hb : b < 4294967296) (h : be a 4 = be b 4) : a = b := by
  rw [be4_eq, be4_eq] at h
  have h1 := Int.ofNat.inj (List.cons.inj h).1
  have h2 := Int.ofNat.inj (List.cons.inj (List.cons.inj h).2).1
  have h3 := Int.ofNat.inj (List.cons.inj (List.cons.inj (List.cons.inj h).2).2).1
  have h4 := Int.ofNat.inj (List.cons.inj (List.cons.inj (List.cons.inj (List.cons.inj h).2).2).2).1
  clear h
  rw [Nat.div_one, Nat.div_one] at h4
  have ea := Nat.div_add_mod a 256
  have eb := Nat.div_add_mod b 256
  have ea2 : a / 65536 = a / 256 / 256 := by rw [Nat.div_div_eq_div_mul]
  have eb2 : b / 65536 = b / 256 / 256 := by rw [Nat.div_div_eq_div_mul]
  have ea3 : a / 16777216 = a / 256 / 256 / 256 := by rw [Nat.div_div_eq_div_mul, Nat.div_div_eq_div_mul]
  have eb3 : b / 16777216 = b / 256 / 256 / 256 := by rw [Nat.div_div_eq_div_mul, Nat.div_div_eq_div_mul]
  have la : a / 16777216 < 256 := Nat.div_lt_of_lt_mul ha
  have lb : b / 16777216 < 256 := Nat.div_lt_of_lt_mul hb
  rw [Nat.mod_eq_of_lt la, Nat.mod_eq_of_lt lb, ea3, eb3] at h1
  rw [ea2, eb2] at h2
  generalize a / 256 = a1 at *
  generalize b / 256 = b1 at *
  have f1 := Nat.div_add_mod a1 256
  have f2 := Nat.div_add_mod b1 256
  have f3 := Nat.div_add_mod (a1 / 256) 256
  have f4 := Nat.div_add_mod (b1 / 256) 256
  rw [h1, h2] at f3
  have f5 : a1 / 256 = b1 / 256 := f3.symm.trans f4
  rw [f5, h3] at f1
  have f6 : a1 = b1 := f1.symm.trans f2
  rw [f6, h4] at ea
  exact ea.symm.trans eb
theorem AllB.append {xs ys : List Int} (hx : AllB xs) (hy : AllB ys) : AllB (xs ++ ys) := fun x h => (List.mem_append.1 h).elim (hx x) (hy x)
theorem drop_set_here {α : Type} (l : List α) (k : Nat) (x : α) (h : k < l.length) : (l.set k x).drop k = x :: l.drop (k + 1) := by
  induction l generalizing k with
  | nil => cases h
  | cons y l ih =>
    cases k with
    | zero => rfl
    | succ k => exact ih k (by simpa using h)
theorem size_alloc' (W : World) (o : Obj) : (W.alloc o).heap.size = W.heap.size + 1 := by show (W.heap.push o).size = _; simp
theorem div_pow (v m : Nat) : v / 256 ^ m / 256 = v / 256 ^ (m + 1) := by rw [Nat.div_div_eq_div_mul, Nat.pow_succ]
set_option maxRecDepth 100000 in
set_option maxHeartbeats 1600000 in
theorem high_at (v n : Nat) (w : World) (hv : v < 18446744073709551616) (hn : n ≤ 8) :
    Calls Try.prog 19 #[.int .u64 v, .int .i64 n] w fun e w' => e = .returned (.slice (some ⟨w.heap.size, 0, none⟩) n n) ∧ (∃ C, w'.heap[w.heap.size]? = some (.cells C 5 (0, 0)) ∧ C.toList = Bs (be v n)) ∧ Below w.heap.size w w' := by
  obtain ⟨i0, hi, hz0, hz1, hz2⟩ := info_parts info5
  have hmk := fun w : World => run_make (P := Try.prog) w 41 5 i0 _ Try.underlying41 hi hz0 .i64 .i64 (n : Int) (n : Int) (by omega) (by omega) (by rw [hz2]; omega) (by omega)
  generalize hC : madeCells (Value.int .u8 0).cells ((n : Int).toNat * i0.size) = C0 at hmk
  have HC : Hid (C0.size = n) := by rw [← hC, size_madeCells, hz1]; unfold Hid; simp
  rw [show ((n : Int)).toNat = n by omega] at hmk
  clear hC hi hz0 hz1 hz2
  have HB0 : Hid (∀ C, Below w.heap.size w (w.alloc (Obj.cells C 5))) := fun C => (Below.refl _ _).alloc (Nat.le_refl _) _
  go_enter Try.func19, Try.ntmps19
  go_wp2
  have hblk0 := heap_alloc_new w (Obj.cells C0 5)
  have hbel0 := HB0.out C0
  have HV := Lib.hid hv
  generalize w.alloc (Obj.cells C0 5) = W0 at *
  have HS : Hid (w.heap.size = w.heap.size) := rfl
  generalize hg : w.heap.size = g at *
  clear hmk HB0 hv
  go_loopw [0, 6] (fun z i wr => ∃ (j : Nat) (C : Array Value) (x : Nat), i = .int .i64 ((j : Int) - 1) ∧ z = .int .u64 x ∧ j ≤ n ∧ x = v / 256 ^ (n - j) ∧ wr.heap[g]? = some (.cells C 5 (0, 0)) ∧ C.size = n ∧ C.toList.drop j = Bs (be v (n - j)) ∧ Below g w wr) (fun _ i _ => (intOf i + 1).toNat)
  case atStart =>
    refine ⟨n, C0, v, rfl, rfl, Nat.le_refl _, by simp, hblk0, HC.out, ?_, hbel0⟩
    rw [Nat.sub_self, List.drop_of_length_le (by rw [Array.length_toList, HC.out]; omega)]; rfl
  case round =>
    obtain ⟨j, C, x, rfl, rfl, hj, hx, hblk, hsz, hl, hbel⟩ := hrel
    have HX := Lib.hid hx
    have HBK := Lib.hid hblk
    have HL := Lib.hid hl
    have hxv : x < 18446744073709551616 := by rw [hx]; exact Nat.lt_of_le_of_lt (Nat.div_le_self _ _) HV.out
    clear hx hblk hl hblk0
    by_cases hj0 : j = 0
    · subst hj0
      go_wp2
      go_ret
      refine ⟨rfl, ⟨C, HBK.out, ?_⟩, hbel⟩
      have h := HL.out
      rw [List.drop_zero, Nat.sub_zero] at h
      exact h
    · obtain ⟨k, rfl⟩ : ∃ k, j = k + 1 := ⟨j - 1, by omega⟩
      have hk : ((k + 1 : Nat) : Int) - 1 = k := by omega
      rw [hk]
      obtain ⟨u, hu⟩ : ∃ u, C[k]? = some u := ⟨_, Array.getElem?_eq_getElem (by rw [hsz]; omega)⟩
      have c0 : wr.cell? ⟨g, k, none⟩ = some u := (blk_cell HBK.out k).trans hu
      have f0 : wr.frozen? ⟨g, k, none⟩ = false := blk_free HBK.out k
      clear hu hk
      go_wp2
      go_roundw
      case rel =>
        refine ⟨k, _, x / 256, by go_num, by go_num, by omega, ?_, heap_setCell_same' HBK.out _, by simp [hsz], ?_, hbel.setCell (Nat.le_refl _) _⟩
        · rw [HX.out, div_pow, show n - (k + 1) + 1 = n - k by omega]
        · rw [Array.toList_setIfInBounds, show n - k = (n - (k + 1)) + 1 by omega]
          show _ = Bs (((v / 256 ^ (n - (k + 1)) % 256 : Nat) : Int) :: be v (n - (k + 1)))
          rw [← HX.out]
          rw [drop_set_here _ _ _ (by simp [hsz]; omega), HL.out]
          unfold Bs
          rw [List.map_cons]
          congr 1
          try simp
      case measure => simp [intOf]
/-- A slice that is its whole block: of these bytes. -/
def FullAt (w : World) (base : Nat) (v : Value) (xs : List Int) : Prop := ∃ q C, v = .slice (some ⟨q, 0, none⟩) xs.length xs.length ∧ base ≤ q ∧ w.heap[q]? = some (.cells C 5 (0, 0)) ∧ C.toList = Bs xs
theorem FullAt.size {C : Array Value} {xs : List Int} (h : C.toList = Bs xs) : C.size = xs.length := by rw [← Array.length_toList, h, Bs_length]
theorem FullAt.own {w : World} {base : Nat} {v : Value} {xs : List Int} (h : FullAt w base v xs) (hm : xs.length ≤ maxLen) : w.ownsRow base 5 1 v xs.length (Bs xs) := by
  obtain ⟨q, C, rfl, hb, hq, hc⟩ := h
  exact ⟨by rw [Bs_length]; omega, Or.inr ⟨q, xs.length, C, rfl, hb, hq, Nat.le_refl _, hm, by rw [FullAt.size hc]; omega, by rw [hc]; exact List.take_of_length_le (by rw [Bs_length]; omega)⟩⟩
theorem FullAt.byt {w : World} {base : Nat} {v : Value} {xs : List Int} (h : FullAt w base v xs) : ∃ q, v = .slice (some ⟨q, 0, none⟩) xs.length xs.length ∧ Byt w (some ⟨q, 0, none⟩) xs := by
  obtain ⟨q, C, rfl, hb, hq, hc⟩ := h
  exact ⟨q, rfl, byt_blk hq hc⟩
theorem FullAt.grown {w w' : World} {base : Nat} {v : Value} {xs : List Int} (h : FullAt w base v xs) (hg : w.grownBy w' none) : FullAt w' base v xs := by
  obtain ⟨q, C, rfl, hb, hq, hc⟩ := h
  exact ⟨q, C, rfl, hb, by rw [hg.block q (room_lt hq) (by simp)]; exact hq, hc⟩
theorem FullAt.mono {w : World} {base base' : Nat} {v : Value} {xs : List Int} (h : FullAt w base v xs) (hb' : base' ≤ base) : FullAt w base' v xs := by
  obtain ⟨q, C, rfl, hb, hq, hc⟩ := h
  exact ⟨q, C, rfl, Nat.le_trans hb' hb, hq, hc⟩
theorem high_full (v n : Nat) (w : World) (hv : v < 18446744073709551616) (hn : n ≤ 8) :
    Calls Try.prog 19 #[.int .u64 v, .int .i64 n] w fun e w' => ∃ u, e = .returned u ∧ FullAt w' w.heap.size u (be v n) ∧ Below w.heap.size w w' :=
  (high_at v n w hv hn).mono fun e w' ⟨he, ⟨C, hq, hc⟩, hb⟩ => ⟨_, he, ⟨_, C, by rw [be_length], Nat.le_refl _, hq, hc⟩, hb⟩
theorem high1_any (v n : Nat) (w : World) (hv : v < 18446744073709551616) (hn : n ≤ 8) :
    Calls Try.prog 19 #[.int .u64 v, .int .i64 n] w fun e w' => ∃ v', e = .returned v' ∧ w'.ownsRow w.heap.size 5 1 v' n (Bs (be v n)) ∧ Below w.heap.size w w' :=
  (high_full v n w hv hn).mono fun e w' ⟨u, he, hf, hb⟩ => ⟨u, he, by have := hf.own (by rw [be_length]; simp only [maxLen]; omega); rwa [be_length] at this, hb⟩
def numV (xs : List Int) : Nat := xs.foldl (fun n x => n * 256 + x.toNat) 0
theorem numV_snoc (xs : List Int) (x : Int) : numV (xs ++ [x]) = numV xs * 256 + x.toNat := by unfold numV; rw [List.foldl_append]; rfl
theorem numV_lt : ∀ (s : Nat) (xs : List Int), xs.length = s → AllB xs → numV xs < 256 ^ s := by
  intro s
  induction s with
  | zero => intro xs h _; rw [List.length_eq_zero_iff.1 h]; unfold numV; simp
  | succ s ih =>
    intro xs h hB
    rcases List.eq_nil_or_concat xs with rfl | ⟨l, x, rfl⟩
    · cases h
    · rw [List.concat_eq_append] at *
      rw [numV_snoc, Nat.pow_succ]
      have h1 := ih l (by simp at h; exact h) (fun y hy => hB y (by simp [hy]))
      have h2 := hB x (by simp)
      omega
theorem be_mul (n x : Nat) (hx : x < 256) : ∀ s, be (n * 256 + x) (s + 1) = be n s ++ [(x : Int)]
  | 0 => by
    show [(((n * 256 + x) / 256 ^ 0 % 256 : Nat) : Int)] = [(x : Int)]
    rw [Nat.pow_zero, Nat.div_one, show (n * 256 + x) % 256 = x by omega]
  | s + 1 => by
    show (((n * 256 + x) / 256 ^ (s + 1) % 256 : Nat) : Int) :: be (n * 256 + x) (s + 1) = (((n / 256 ^ s % 256 : Nat) : Int) :: be n s) ++ [(x : Int)]
    rw [be_mul n x hx s, Nat.pow_succ, Nat.mul_comm (256 ^ s) 256, ← Nat.div_div_eq_div_mul, show (n * 256 + x) / 256 = n by omega]
    rfl
theorem be_snoc (n s : Nat) : be n (s + 1) = be (n / 256) s ++ [((n % 256 : Nat) : Int)] := by
  have h := be_mul (n / 256) (n % 256) (Nat.mod_lt _ (by omega)) s
  rwa [show n / 256 * 256 + n % 256 = n by omega] at h
theorem numV_be : ∀ (s n : Nat), n < 256 ^ s → numV (be n s) = n
  | 0, n, h => by simp at h; subst h; rfl
  | s + 1, n, h => by
    rw [be_snoc, numV_snoc, numV_be s (n / 256) (by rw [Nat.pow_succ] at h; exact Nat.div_lt_of_lt_mul (by omega)), Int.toNat_natCast]
    omega
theorem be_numV : ∀ (s : Nat) (xs : List Int), xs.length = s → AllB xs → be (numV xs) s = xs := by
  intro s
  induction s with
  | zero => intro xs h _; rw [List.length_eq_zero_iff.1 h]; rfl
  | succ s ih =>
    intro xs h hB
    rcases List.eq_nil_or_concat xs with rfl | ⟨l, x, rfl⟩
    · cases h
    · rw [List.concat_eq_append] at *
      have h2 := hB x (by simp)
      rw [numV_snoc, be_mul _ _ (by omega), ih l (by simp at h; exact h) (fun y hy => hB y (by simp [hy]))]
      congr 2
      omega
theorem or_byte (a y : Nat) (ha : a < 16777216) (hy : y < 256) : bits .or .u32 ((a : Int) * 256) (y : Int) = ((a * 256 + y : Nat) : Int) := by
  have h := u32_or_nat (a * 256) y (by omega) (by omega)
  have h2 := Nat.two_pow_add_eq_or_of_lt (i := 8) (b := y) (by omega) a
  rw [show (2 ^ 8 * a : Nat) = a * 256 by omega] at h2
  rw [← h2] at h
  rw [← h, Int.natCast_mul]; rfl
theorem rnum_any (A : Option Addr) (xs : List Int) (n d : Nat) (w : World) (hn : xs.length = n) (hl : n ≤ 4) (hB : AllB xs) (hy : Byt w A xs) :
    Calls Try.prog 24 #[.slice A n d] w fun e w' => e = .returned (.int .u64 (numV xs)) ∧ w = w' := by
  have HY := Lib.hid hy
  have HN := Lib.hid hn
  have HB := Lib.hid hB
  clear hn hB hy
  go_enter Try.func24, Try.ntmps24
  go_wp2
  go_loop [3, 4] (fun z i => ∃ k : Nat, k ≤ n ∧ i = .int .i64 k ∧ z = .int .u64 (numV (xs.take k) : Nat)) (fun _ i => n - (intOf i).toNat)
  case atStart => exact ⟨0, Nat.zero_le _, rfl, rfl⟩
  case round =>
    obtain ⟨k, hk, rfl, rfl⟩ := hrel
    by_cases hlt : k < n
    · obtain ⟨x, hx⟩ : ∃ x, xs[k]? = some x := ⟨_, List.getElem?_eq_getElem (by rw [HN.out]; exact hlt)⟩
      obtain ⟨ad, rfl, hc0⟩ := HY.out k x hx
      have hxb := HB.out x (List.mem_of_getElem? hx)
      obtain ⟨y, rfl⟩ : ∃ y : Nat, x = (y : Int) := ⟨x.toNat, by omega⟩
      have hyb : y < 256 := by omega
      have HS : Hid (numV (xs.take (k + 1)) = numV (xs.take k) * 256 + y) := by
        unfold Hid; rw [take_snoc' hx, numV_snoc, Int.toNat_natCast]
      have hv := numV_lt k (xs.take k) (by rw [List.length_take, HN.out]; omega) (fun z hz => HB.out z (List.mem_of_mem_take hz))
      have hv2 : 256 ^ k ≤ 256 ^ 3 := Nat.pow_le_pow_right (by omega) (by omega)
      have hv3 : numV (xs.take k) < 16777216 := by omega
      clear hx hxb hv hv2
      generalize numV (xs.take k) = a at *
      have wy : IntKind.u64.wrap (y : Int) = y := IntWalk.u64_in _ (by omega)
      have wa : IntKind.u64.wrap ((a : Int) * 256) = (a : Int) * 256 := IntWalk.u64_in _ (by omega)
      have wb : IntKind.u64.wrap ((a : Int) * 256 + y) = (a : Int) * 256 + y := IntWalk.u64_in _ (by omega)
      go_wp2
      go_round
      case rel => exact ⟨k + 1, by omega, by go_num, by rw [HS.out]; go_num⟩
      case measure => simp [intOf]; omega
    · have e : xs.take k = xs := List.take_of_length_le (by rw [HN.out]; omega)
      rw [e]
      go_wp2
      go_ret
      exact ⟨rfl, rfl⟩
end Go.Proofs.Ytcmmopngjeonfaa
