/- Contracts: ino.appendNumber, appendGen, Put. -/
import Derived.Test.YtcmmopngjeonfaaUc
import Derived.Deep.Onto
namespace Go.Proofs.Ytcmmopngjeonfaa
open Go.ChangeShapes Go.WideShapes Go.ChangeAt Go.RowKit
open Fx
set_option linter.unusedVariables false
/-- The first three bytes. -/
def numB (l a : Int) : List Int := [l % 256, a / 256, a]
set_option maxRecDepth 100000 in
theorem iappnum_any (w : World) (base : Nat) (v : Value) (n : Nat) (xs : List Int) (l a : Int) (hown : w.ownsRow base 5 1 v n (Bs xs)) (hbase : base ≤ w.heap.size) (hn : n ≤ 900000) (hl : -1 ≤ l ∧ l < 8) (ha : 0 ≤ a ∧ a < 200) :
    Calls Try.prog 28 #[v, .complex .f64 (fi l) (fi a)] w fun e w' => ∃ v', e = .returned v' ∧ w'.ownsRow base 5 1 v' (n + 3) (Bs (xs ++ numB l a)) ∧ Below base w w' := by
  have v1 := fun w : World => run_convert_float_int w 63 62 .f64 .i8 _ _ (P := Try.prog) (by kernel_rfl) Try.underlying62 (int_fi .i8 l (by omega) (by rw [show IntKind.i8.min = -128 from rfl]; omega) (by rw [show IntKind.i8.max = 127 from rfl]; omega))
  have v2 := fun w : World => run_convert_float_int w 63 64 .f64 .u16 _ _ (P := Try.prog) (by kernel_rfl) Try.underlying64 (int_fi .u16 a (by omega) (by rw [show IntKind.u16.min = 0 from rfl]; omega) (by rw [show IntKind.u16.max = 65535 from rfl]; omega))
  have HO := Lib.hid hown
  clear hown
  generalize fi l = x at *
  generalize fi a = y at *
  go_enter Try.func28, Try.ntmps28
  have HL : Hid (n + 3 ≤ 1000000) := by unfold Hid; omega
  go_wp2_with (first
    | (at_builtin
       refine wpList_app_byt _ rfl (.tmp 13) (.tmp 21) rfl base v n xs rfl (HO.out.alloc _) (some ⟨w.heap.size, 0, none⟩) 3 3 (numB l a) rfl (byt_blk (heap_alloc_new _ _) rfl) rfl HL.out (by rw [size_alloc']; omega) ?_
       intro v2 w2 h2 hg2 _
       have hB2 : Below base w w2 := (((Below.refl _ _).alloc hbase _).grown hg2 (by rw [size_alloc']; omega) (fun k hk => (HO.out.lt k hk).1))
       have H2 := Lib.hid h2
       clear h2 hg2))
  go_ret
  exact ⟨_, rfl, H2.out, hB2⟩
set_option maxRecDepth 100000 in
theorem iappgen_any (w : World) (base : Nat) (v : Value) (n : Nat) (xs : List Int) (g : Nat) (hown : w.ownsRow base 5 1 v n (Bs xs)) (hbase : base ≤ w.heap.size) (hn : n ≤ 900000) (hg : g < 4294967296) :
    Calls Try.prog 30 #[v, .int .u32 g] w fun e w' => ∃ v', e = .returned v' ∧ w'.ownsRow base 5 1 v' (n + 4) (Bs (xs ++ be g 4)) ∧ Below base w w' := by
  have HO := Lib.hid hown
  clear hown
  have HE : Hid (([.int .u8 ((g : Int) / 16777216), .int .u8 ((g : Int) / 65536 % 256), .int .u8 ((g : Int) / 256 % 256), .int .u8 ((g : Int) % 256)] : List Value) = Bs (be g 4)) := by
    unfold Hid
    rw [be4_eq, show (g : Int) / 16777216 = ((g / 16777216 % 256 : Nat) : Int) by omega, show (g : Int) / 65536 % 256 = ((g / 65536 % 256 : Nat) : Int) by omega, show (g : Int) / 256 % 256 = ((g / 256 % 256 : Nat) : Int) by omega, show (g : Int) % 256 = ((g / 1 % 256 : Nat) : Int) by omega]
    rfl
  have HL : Hid (n + 4 ≤ 1000000) := by unfold Hid; omega
  go_enter Try.func30, Try.ntmps30
  go_wp2_with (first
    | (at_builtin
       refine wpList_app_byt _ rfl (.tmp 5) (.tmp 17) rfl base v n xs rfl (HO.out.alloc _) (some ⟨w.heap.size, 0, none⟩) 4 4 (be g 4) rfl (byt_blk (heap_alloc_new _ _) HE.out) (be_length _ _) HL.out (by rw [size_alloc']; omega) ?_
       intro v2 w2 h2 hg2 _
       have hB2 : Below base w w2 := (((Below.refl _ _).alloc hbase _).grown hg2 (by rw [size_alloc']; omega) (fun k hk => (HO.out.lt k hk).1))
       have H2 := Lib.hid h2
       clear h2 hg2))
  go_ret
  exact ⟨_, rfl, H2.out, hB2⟩
/-- An ID's bytes. -/
def idL (l a g : Int) : List Int := numB l a ++ be g.toNat 4
def putL (l a g : Int) : List Int := if MayI l a g then idL l a g else []
theorem own_make (W : World) (base cap : Nat) (t : TypeId) (C : Array Value) (hb : base ≤ W.heap.size) (hn : C.size = cap) (hm : cap ≤ maxLen) :
    (W.alloc (.cells C t)).ownsRow base t 1 (.slice (some ⟨W.heap.size, 0, none⟩) 0 cap) 0 (Bs []) :=
  ⟨rfl, Or.inr ⟨W.heap.size, cap, C, rfl, hb, heap_alloc_new W _, Nat.zero_le _, hm, by omega, by simp [Bs]⟩⟩
set_option maxRecDepth 100000 in
theorem iput_any (l a g : Int) (w : World) (hl : i64 l) (ha : i64 a) (hg : u32 g) :
    Calls Try.prog 16 #[idV l a g] w fun e w' => ∃ v, e = .returned v ∧ w'.ownsRow w.heap.size 5 1 v (putL l a g).length (Bs (putL l a g)) ∧ Below w.heap.size w w' := by
  have HM := Lib.hid (fun w => imay_any l a g w hl ha hg)
  have HN := Lib.hid (itonum_any l a g)
  have HB := Lib.hid (bel1 (w := w) (Obj.cells #[.int .i64 l, .int .i64 a, .int .u32 g] 24))
  have H0 := Lib.hid (IdAt.new w l a g)
  rw [idV_eq] at HM HN ⊢
  by_cases hmay : MayI l a g
  · have hp : putL l a g = idL l a g := by unfold putL; rw [if_pos hmay]
    have hp2 : (idL l a g).length = 0 + 3 + 4 := by unfold idL numB; simp [be_length]
    rw [hp, hp2]
    rw [decide_eq_true hmay] at HM
    have hl2 : -1 ≤ l ∧ l < 8 := by unfold MayI Within at hmay; omega
    have ha2 : 0 ≤ a ∧ a < 200 := by unfold MayI Within at hmay; omega
    have HA := Lib.hid (fun (w : World) (base : Nat) v xs n h1 h2 h3 => iappnum_any w base v n xs l a h1 h2 h3 hl2 ha2)
    obtain ⟨gn, rfl⟩ : ∃ gn : Nat, g = (gn : Int) := ⟨g.toNat, by have := hg.1; omega⟩
    have HG := Lib.hid (fun (w : World) (base : Nat) v xs n h1 h2 h3 => iappgen_any w base v n xs gn h1 h2 h3 (by have := hg.2; omega))
    obtain ⟨i0, hi, hz0, hz1, hz2⟩ := info_parts info5
    have hmk := fun w : World => run_make (P := Try.prog) w 41 5 i0 _ Try.underlying41 hi hz0 .i64 .i64 0 7 (by omega) (by omega) (by rw [hz2]; omega) (by omega)
    generalize hC : madeCells (Value.int .u8 0).cells ((7 : Int).toNat * i0.size) = C0 at hmk
    have HC : Hid (C0.size = 7) := by rw [← hC, size_madeCells, hz1]; unfold Hid; rfl
    clear hC hi hz0 hz1 hz2 hmay hp hp2 hl2 ha2 hl ha hg
    have HI : Hid (idL l a gn = ([] ++ numB l a) ++ be gn 4) := rfl
    generalize idL l a gn = L at *
    unfold idA at HM HN ⊢
    go_enter Try.func16, Try.ntmps16
    go_wp2_with fail
    refine (HM.out _).mono ?_
    rintro e w1 ⟨rfl, hb1⟩
    have H1 := Lib.hid (H0.out.below hb1)
    have HB1 := Lib.hid (keepB HB.out hb1)
    clear hb1 HB H0
    obtain ⟨b1, hb1e⟩ : ∃ b1, b1 = w1.heap.size := ⟨_, rfl⟩
    have hown := own_make w1 b1 7 5 C0 (by omega) HC.out (by simp only [maxLen]; omega)
    have hlt : w.heap.size < b1 := by rw [hb1e]; exact room_lt H1.out
    have hsz2 : b1 ≤ (w1.alloc (Obj.cells C0 5)).heap.size := by rw [size_alloc']; omega
    have HB2 := Lib.hid (HB1.out.alloc HB1.out.size (Obj.cells C0 5))
    have H2 := Lib.hid (H1.out.alloc (Obj.cells C0 5))
    have HO2 := Lib.hid hown
    clear hown hb1e
    go_upto_region 4 with fail
    generalize w1.alloc (Obj.cells C0 5) = w2 at *
    generalize (Value.slice (some ⟨w1.heap.size, 0, none⟩) 0 7) = v2 at *
    go_wp2_with (refine wpList_loadI rfl (.tmp 1) rfl w.heap.size rfl l a gn H2.out ?_)
    refine (HN.out _).mono ?_
    rintro e w3 ⟨rfl, hb3⟩
    have H3 := Lib.hid (H2.out.below hb3)
    have HB3 := Lib.hid (HB2.out.trans (hb3.mono (by omega)))
    have HO3 := Lib.hid (ownB HO2.out hb3)
    have hsz3 : b1 ≤ w3.heap.size := Nat.le_trans hsz2 hb3.size
    clear hb3 H2 HB2 HO2 hsz2
    go_wp2_with fail
    refine (HA.out w3 b1 v2 [] 0 HO3.out hsz3 (by omega)).mono ?_
    rintro e w4 ⟨v4, rfl, ho4, hb4⟩
    have hc4 : w4.cell? ⟨w.heap.size, 2, none⟩ = some (.int .u32 gn) := by
      rw [hb4.cell (p := ⟨w.heap.size, 2, none⟩) hlt]; exact H3.out.cell 2
    have HB4 := Lib.hid (HB3.out.trans (hb4.mono (Nat.le_of_lt hlt)))
    have hsz4 : b1 ≤ w4.heap.size := Nat.le_trans hsz3 hb4.size
    have HO4 := Lib.hid ho4
    clear ho4 hb4 HB3 H3 hsz3
    go_wp2_with fail
    refine (HG.out w4 b1 v4 _ _ HO4.out hsz4 (by omega)).mono ?_
    rintro e w5 ⟨v5, rfl, ho5, hb5⟩
    have HB5 := Lib.hid (HB4.out.trans (hb5.mono (Nat.le_of_lt hlt)))
    have HO5 := Lib.hid (World.ownsRow.mono ho5 (Nat.le_of_lt hlt))
    clear ho5 hb5
    go_wp2_with fail
    go_ret
    exact ⟨_, rfl, by rw [HI.out]; exact HO5.out, HB5.out⟩
  · have hp : putL l a g = [] := by unfold putL; rw [if_neg hmay]
    rw [hp]
    rw [decide_eq_false hmay] at HM
    clear hp hmay
    unfold idA at HM HN ⊢
    go_enter Try.func16, Try.ntmps16
    go_wp2_with fail
    refine (HM.out _).mono ?_
    rintro e w1 ⟨rfl, hb1⟩
    have HB1 := Lib.hid (keepB HB.out hb1)
    clear hb1 HB H0
    go_wp2_with fail
    go_ret
    exact ⟨_, rfl, ⟨rfl, Or.inl ⟨rfl, rfl⟩⟩, HB1.out⟩
end Go.Proofs.Ytcmmopngjeonfaa
