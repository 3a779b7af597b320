/- slices.SortFunc of writes by where they are: the library's contracts at this program; contracts: cmp.Compare, the order of writes. -/
import Derived.Test.YtbcnjilhibkcnaaKb
import Derived.Shelf.SlSortCmp.NoneTotal
import Derived.Shelf.SlicesG.Cmp
namespace Go.Proofs.Ytbcnjilhibkcnaa
open Go.ChangeShapes Go.WideShapes Go.ChangeAt Go.RowKit Go.Shelf Go.Lib Go.Sort
set_option linter.unusedVariables false
def Try.sortW_ren : Go.Shelf.Ren := ⟨fun | 6 => 28 | 15 => 34 | 14 => 33 | 28 => 44 | 29 => 45 | 20 => 36 | 21 => 37 | 22 => 38 | 23 => 39 | 24 => 40 | 25 => 41 | 26 => 42 | 27 => 43 | 46 => 46 | 47 => 47 | 48 => 48 | 49 => 49 | 50 => 50 | 57 => 51 | n => n, fun | 22 => 39 | 24 => 36 | 25 => 70 | 3 => 3 | 39 => 74 | 0 => 0 | 53 => 85 | 55 => 87 | 4 => 4 | 46 => 78 | 45 => 77 | 50 => 82 | 5 => 5 | 9 => 9 | 66 => 88 | 70 => 92 | 76 => 94 | 77 => 95 | n => n, fun | n => n⟩
theorem Try.sortW : SlLaysF0.n6 Try.prog Try.sortW_ren := {
  mixed := by kernel_rfl
  f6 := ⟨Try.f28.name, by decide, Try.func28.trans (congrArg some (by kernel_rfl))⟩
  f14 := ⟨Try.f33.name, by decide, Try.func33.trans (congrArg some (by kernel_rfl))⟩
  f15 := Try.func34.trans (congrArg some (by kernel_rfl))
  f20 := ⟨Try.f36.name, by decide, Try.func36.trans (congrArg some (by kernel_rfl))⟩
  f21 := ⟨Try.f37.name, by decide, Try.func37.trans (congrArg some (by kernel_rfl))⟩
  f22 := ⟨Try.f38.name, by decide, Try.func38.trans (congrArg some (by kernel_rfl))⟩
  f23 := ⟨Try.f39.name, by decide, Try.func39.trans (congrArg some (by kernel_rfl))⟩
  f24 := ⟨Try.f40.name, by decide, Try.func40.trans (congrArg some (by kernel_rfl))⟩
  f25 := ⟨Try.f41.name, by decide, Try.func41.trans (congrArg some (by kernel_rfl))⟩
  f26 := ⟨Try.f42.name, by decide, Try.func42.trans (congrArg some (by kernel_rfl))⟩
  f27 := ⟨Try.f43.name, by decide, Try.func43.trans (congrArg some (by kernel_rfl))⟩
  f28 := Try.func44.trans (congrArg some (by kernel_rfl))
  f29 := Try.func45.trans (congrArg some (by kernel_rfl))
  f46 := ⟨Try.f46.name, by decide, Try.func46.trans (congrArg some (by kernel_rfl))⟩
  f47 := Try.func47.trans (congrArg some (by kernel_rfl))
  f48 := Try.func48.trans (congrArg some (by kernel_rfl))
  f49 := ⟨Try.f49.name, by decide, Try.func49.trans (congrArg some (by kernel_rfl))⟩
  f50 := ⟨Try.f50.name, by decide, Try.func50.trans (congrArg some (by kernel_rfl))⟩
  f57 := ⟨Try.f51.name, by decide, Try.func51.trans (congrArg some (by kernel_rfl))⟩
  t0 := Try.underlying0
  a0 := Try.isAgg0
  z0 := Try.sizeOf0
  v0 := Try.zeroValue0
  t3 := Try.underlying3
  a3 := Try.isAgg3
  z3 := Try.sizeOf3
  v3 := Try.zeroValue3
  t4 := Try.underlying4
  a4 := Try.isAgg4
  z4 := Try.sizeOf4
  v4 := Try.zeroValue4
  t5 := Try.underlying5
  a5 := Try.isAgg5
  z5 := Try.sizeOf5
  v5 := Try.zeroValue5
  t9 := Try.underlying9
  a9 := Try.isAgg9
  z9 := Try.sizeOf9
  v9 := Try.zeroValue9
  t22 := Try.underlying39
  a22 := Try.isAgg39
  z22 := Try.sizeOf39
  v22 := Try.zeroValue39
  t25 := Try.underlying70
  a25 := Try.isAgg70
  z25 := Try.sizeOf70
  v25 := Try.zeroValue70
  t39 := Try.underlying74
  a39 := Try.isAgg74
  z39 := Try.sizeOf74
  v39 := Try.zeroValue74
  t45 := Try.underlying77
  a45 := Try.isAgg77
  z45 := Try.sizeOf77
  v45 := Try.zeroValue77
  t46 := Try.underlying78
  a46 := Try.isAgg78
  z46 := Try.sizeOf78
  v46 := Try.zeroValue78
  t50 := Try.underlying82
  a50 := Try.isAgg82
  z50 := Try.sizeOf82
  v50 := Try.zeroValue82
  t53 := Try.underlying85
  a53 := Try.isAgg85
  z53 := Try.sizeOf85
  v53 := Try.zeroValue85
  t55 := Try.underlying87
  a55 := Try.isAgg87
  z55 := Try.sizeOf87
  v55 := Try.zeroValue87
  t66 := Try.underlying88
  a66 := Try.isAgg88
  z66 := Try.sizeOf88
  v66 := Try.zeroValue88
  t70 := Try.underlying92
  a70 := Try.isAgg92
  z70 := Try.sizeOf92
  v70 := Try.zeroValue92
  t76 := Try.underlying94
  a76 := Try.isAgg94
  z76 := Try.sizeOf94
  v76 := Try.zeroValue94
  t77 := Try.underlying95
  a77 := Try.isAgg95
  z77 := Try.sizeOf95
  v77 := Try.zeroValue95 }
def Try.cmpI_ren : Go.Shelf.Ren := ⟨fun | 5 => 30 | 7 => 35 | n => n, fun | 22 => 3 | 3 => 3 | 4 => 4 | n => n, fun | n => n⟩
theorem Try.cmpI : SlLaysC2.n5 Try.prog Try.cmpI_ren := {
  mixed := by kernel_rfl
  f5 := ⟨Try.f30.name, by decide, Try.func30.trans (congrArg some (by kernel_rfl))⟩
  f7 := ⟨Try.f35.name, by decide, Try.func35.trans (congrArg some (by kernel_rfl))⟩
  t3 := Try.underlying3
  a3 := Try.isAgg3
  z3 := Try.sizeOf3
  v3 := Try.zeroValue3
  t4 := Try.underlying4
  a4 := Try.isAgg4
  z4 := Try.sizeOf4
  v4 := Try.zeroValue4
  t22 := Try.underlying3
  a22 := Try.isAgg3
  z22 := Try.sizeOf3
  v22 := Try.zeroValue3 }
/-- A write of 56 bytes. -/
abbrev W56 : Type := {x : Wr // x.bs.length = 56}
instance : Inhabited W56 := ⟨⟨zW, zW_len⟩⟩
def encW (x : W56) : List Value := wrL x.1
theorem encW_len (x : W56) : (encW x).length = 58 := wrL_length x.2
theorem fitsW (L : List W56) : Fits encW 58 L := fun x _ => encW_len x
theorem flat_row (L : List W56) : (flatK encW 58 L.toArray).toList = rowL encW L := by
  have hl := rowL_length (fitsW L)
  apply List.ext_getElem?
  intro t
  by_cases ht : t < L.length * 58
  · have h1 : t / 58 < L.length := by omega
    have h2 : t % 58 < 58 := Nat.mod_lt _ (by omega)
    have e1 := get_flatK encW 58 L.toArray t (by simpa using ht)
    have e2 := rowL_at (fitsW L) (List.getElem?_eq_getElem h1) (List.getElem?_eq_getElem (l := encW L[t / 58]) (by rw [encW_len]; exact h2))
    rw [show t / 58 * 58 + t % 58 = t by omega] at e2
    rw [e2, List.getElem?_eq_getElem (by simp [size_flatK]; omega)]
    congr 1
    rw [Array.getElem_toList, ← getElem!_pos (flatK encW 58 L.toArray) t (by simp [size_flatK]; omega), e1]
    rw [getElem!_pos L.toArray (t / 58) (by simpa using h1)]
    simp only [List.getElem_toArray]
    rw [getElem!_pos _ _ (by rw [encW_len]; exact h2)]
  · rw [List.getElem?_eq_none (by simp [size_flatK]; omega), List.getElem?_eq_none (by omega)]
theorem compare_any (x y : Int) (W : World) : Calls Try.prog 30 #[.int .i64 x, .int .i64 y] W fun e w' => e = .returned (.int .i64 (Lib.compareInt x y)) ∧ w' = W :=
  AnyG.cmp_Compare_int Try.cmpI x y W
theorem closure_any (x y : W56) (W : World) : Calls Try.prog 29 #[.agg (encW x).toArray, .agg (encW y).toArray] W fun e w' => e = .returned (.int .i64 (Lib.compareInt x.1.t y.1.t)) ∧ ∃ q os', w' = grow (W.drewN q) os' := by
  have HC := Lib.hid (compare_any x.1.t y.1.t)
  have HA : Hid (∀ o : Obj, (W.alloc o).heap.size = W.heap.size + 1) := fun o => size_alloc' W o
  have cx' : (W.alloc (.cells (encW x).toArray 36)).cell? ⟨W.heap.size, 0, none⟩ = some (.int .i64 x.1.t) := by rw [blk_cell (heap_alloc_new W _)]; rfl
  have cx2 := keepA cx' (.cells (encW y).toArray 36)
  have cy : ((W.alloc (.cells (encW x).toArray 36)).alloc (.cells (encW y).toArray 36)).cell? ⟨W.heap.size + 1, 0, none⟩ = some (.int .i64 y.1.t) := by rw [← HA.out (.cells (encW x).toArray 36), blk_cell (heap_alloc_new _ _)]; rfl
  generalize Lib.compareInt x.1.t y.1.t = r at *
  generalize (encW x).toArray = X at *
  generalize (encW y).toArray = Y at *
  go_enter Try.func29, Try.ntmps29
  go_wp2_with fail
  refine (HC.out _).mono ?_; rintro e w' ⟨rfl, rfl⟩
  go_wp2_with fail
  go_ret
  exact ⟨rfl, 0, _, by rw [alloc_eq_grow, alloc_eq_grow, grow_grow]; rfl⟩
theorem ltW (x y : W56) : ltOf (fun x y : W56 => Lib.compareInt x.1.t y.1.t) x y = decide (x.1.t < y.1.t) := by
  unfold ltOf Lib.compareInt
  by_cases h1 : x.1.t < y.1.t
  · simp [h1]
  · by_cases h2 : y.1.t < x.1.t <;> simp [h1, h2]
theorem swoW : SWO (ltOf fun x y : W56 => Lib.compareInt x.1.t y.1.t) where
  irrefl x := by rw [ltW]; simp
  trans x y z h1 h2 := by rw [ltW] at *; simp at *; omega
  ntrans x y z h1 h2 := by rw [ltW] at *; simp at *; omega
theorem putCells_take (F cur : Array Value) (h : F.size ≤ cur.size) : (putCells id 0 F cur).toList.take F.size = F.toList := by
  apply List.ext_getElem?
  intro t
  rw [List.getElem?_take]
  split
  · rename_i ht
    rw [Array.getElem?_toList, Array.getElem?_toList]
    unfold putCells
    rw [Array.getElem?_mapIdx, Array.getElem?_eq_getElem (by omega : t < cur.size), Array.getElem?_eq_getElem ht]
    simp [ht]
  · rw [List.getElem?_eq_none (by simp; omega)]
theorem sort_own {W : World} {base blk n cap : Nat} (L : List W56) (hn : L.length = n) (own : W.ownsRow base 36 58 (.slice (some ⟨blk, 0, none⟩) n cap) n (rowL encW L)) (h51 : n ≤ 1000) :
    Calls Try.prog 28 #[.slice (some ⟨blk, 0, none⟩) n cap, .func (.func 29) #[] #[]] W fun e w' => e = .returned (.tuple #[]) ∧ ∃ L' : List W56, L'.Perm L ∧ L'.Pairwise (fun x y => x.1.t ≤ y.1.t) ∧ w'.ownsRow base 36 58 (.slice (some ⟨blk, 0, none⟩) n cap) n (rowL encW L') ∧ W.grownBy w' (some blk) := by
  subst hn
  obtain ⟨cur, hg, hnc, hcm, hcs, htake, hbase⟩ := own_blk own
  have hblk := room_lt hg
  have hH : HoldsK encW 58 W blk 0 L.toArray := fun j hj => by
    rw [size_flatK] at hj
    rw [Nat.zero_add]
    refine ⟨own_cell own ?_, own_free own j⟩
    rw [← flat_row, List.getElem?_eq_getElem (by simp [size_flatK]; simpa using hj)]
    congr 1
    rw [Array.getElem_toList, getElem!_pos _ _ (by rw [size_flatK]; exact hj)]
    rfl
  have eg : ∀ args w, (callFunc 29 args).run Try.prog w = .ok (.enter 29 args) w := enters_of Try.func29 (by kernel_rfl) rfl
  have hcon := AnyQ.slices_SortFunc Try.sortW 58 Try.isAgg36 Try.sizeOf36 encW encW_len (fun x => wrL_one x.1) (fun x y => Lib.compareInt x.1.t y.1.t) swoW 29 #[] blk 0 cap L.toArray W eg (fun _ _ _ _ x y => closure_any x y _) hH hblk (by simp; omega)
  refine hcon.mono ?_
  rintro e w' ⟨he, d', m, os, hP, hS, rfl⟩
  obtain ⟨hsz, _, hperm⟩ := hP
  have e1 : d'.extract 0 L.toArray.size = d' := by rw [← hsz]; exact Array.extract_size
  rw [e1, Array.extract_size] at hperm
  have hsz' : d'.toList.length = L.length := by simpa using hsz
  have hsF : (flatK encW 58 d').size = L.length * 58 := by rw [size_flatK, hsz]; simp
  refine ⟨he, d'.toList, by simpa using hperm, ?_, ⟨by rw [rowL_length (fitsW _), hsz'], Or.inr ⟨blk, cap, putCells id 0 (flatK encW 58 d') cur, rfl, hbase, ?_, hnc, hcm, by rw [← hcs]; unfold putCells; simp, ?_⟩⟩, ?_⟩
  · rw [List.pairwise_iff_getElem]
    intro i j hi hj hij
    have hi' : i < d'.size := by simpa using hi
    have hj' : j < d'.size := by simpa using hj
    have := hS i j (Nat.zero_le _) hij (by omega)
    rw [getElem!_pos d' j hj', getElem!_pos d' i hi', ltW] at this
    simpa using this
  · unfold sortWorldK putRowK putRow mapBlock
    rw [heap_grow_old _ _ (by simpa [Sort.ahead] using hblk)]
    simp [Sort.ahead, Array.getElem?_modify, hg, onCells]
  · have hle : (flatK encW 58 d').size ≤ cur.size := by rw [hsF, hcs]; exact Nat.mul_le_mul_right _ hnc
    have := putCells_take (flatK encW 58 d') cur hle
    rw [hsF] at this
    rw [this, ← flat_row]
  · refine ⟨rfl, rfl, rfl, ?_, fun k hk hne => ?_⟩
    · unfold sortWorldK putRowK putRow mapBlock grow
      simp [Sort.ahead]
    · unfold sortWorldK putRowK putRow mapBlock
      rw [heap_grow_old _ _ (by simpa [Sort.ahead] using hk)]
      simp only [Sort.ahead, Array.getElem?_modify]
      rw [if_neg (fun e => hne (by rw [e]))]
theorem sort_none (A : Option Addr) (cap : Nat) (fv : Value) (W : World) : Calls Try.prog 28 #[.slice A 0 cap, fv] W fun e w' => e = .returned (.tuple #[]) ∧ w' = W :=
  AnyF.slices_SortFunc_none Try.sortW A cap fv W
end Go.Proofs.Ytbcnjilhibkcnaa
