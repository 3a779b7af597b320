/- Contract: epoch. -/
import Derived.Test.YtamnpblijdgdaaaNc
namespace Go.Proofs.Ytamnpblijdgdaaa
open Go.ChangeShapes Go.WideShapes Go.ChangeAt Go.RowKit
set_option linter.unusedVariables false
set_option maxRecDepth 100000
/-- Is there an anchor, at its place? -/
def anOk (xs : List Int) (i : Nat) : Bool := decide (TakenA 0 xs) && decide (takeA 0 xs % 2 = i)
def epN (row : Int → Option (List Int)) : Nat → Nat × Bool
  | 0 => (0, false)
  | k + 1 => if anOk ((row (k : Int)).getD []) k then (max (epN row k).1 (takeA 0 ((row (k : Int)).getD [])), true) else epN row k
theorem takeA_lt (lb : Int) (xs : List Int) (h : AllB xs) : takeA lb xs < 4294967296 := by
  unfold takeA
  split
  · unfold anE
    have h1 : numV ((xs.drop 3).take 4) < 256 ^ ((xs.drop 3).take 4).length := numV_lt _ _ rfl (fun x hx => h x (List.mem_of_mem_drop (List.mem_of_mem_take hx)))
    have h2 : 256 ^ ((xs.drop 3).take 4).length ≤ 256 ^ 4 := Nat.pow_le_pow_right (by omega) (List.length_take_le _ _)
    omega
  · omega
theorem takea_nil (w : World) : Calls Try.prog 65 #[.int .u8 0, .slice none 0 0] w fun en w' => en = .returned (.tuple #[.int .u32 (takeA 0 []), .bool (decide (TakenA 0 []))]) ∧ Below w.heap.size w w' :=
  takea_any 0 none [] 0 0 w (by omega) rfl (Nat.le_refl _) (by omega) (fun x hx => by cases hx) (fun i x hx => by cases hx)
set_option maxHeartbeats 3200000 in
theorem gepoch_any {W : World} {d : Option Addr} {r : Int} {row : Int → Option (List Int)} (h : Rd W d r row) (hrow : ∀ i b, row i = some b → BlkOk b) (n g : Nat) (fr : Int) :
    Calls Try.prog 38 #[gndA d r n g fr] W fun e w' => e = .returned (.tuple #[.int .u32 (epN row 2).1, .bool (epN row 2).2]) ∧ Below W.heap.size W w' := by
  have H0 := Lib.hid h
  have HRW := Lib.hid hrow
  unfold gndA
  clear h hrow
  go_enter Try.func38, Try.ntmps38
  go_upto_region 1 with fail
  have e0 := heap_alloc_new W (Obj.cells (gndC d r n g fr) 82)
  have hb : Below W.heap.size W (W.alloc (Obj.cells (gndC d r n g fr) 82)) := (Below.refl _ _).alloc (Nat.le_refl _) _
  generalize hgb : W.heap.size = gb at *
  generalize W.alloc (Obj.cells (gndC d r n g fr) 82) = W1 at *
  have HB : Hid (Below W.heap.size W W1) := by rw [hgb]; exact hb
  have HG : Hid (∀ W', Below W1.heap.size W1 W' → W'.heap[gb]? = some (.cells (gndC d r n g fr) 82 (0, 0))) := fun W' h => kb h e0
  clear e0 hb
  go_wp2
  go_loopw [4, 5, 12] (fun ep fd i wr => ∃ k : Nat, i = .int .u32 k ∧ k ≤ 2 ∧ ep = .int .u32 (epN row k).1 ∧ fd = .bool (epN row k).2 ∧ Hid ((epN row k).1 < 4294967296) ∧ Below W1.heap.size W1 wr) (fun _ _ i _ => 2 - (intOf i).toNat)
  case atStart => exact ⟨0, rfl, by omega, rfl, rfl, (by show (0 : Nat) < _; omega), Below.refl _ _⟩
  case round =>
    obtain ⟨k, rfl, hk, rfl, rfl, HEP, hbel⟩ := hrel
    obtain ⟨w5, rfl⟩ : ∃ w5, w5 = wr := ⟨wr, rfl⟩
    have HB5 := Lib.hid (keepB HB.out hbel)
    obtain ⟨z0, z1, z2, z3, z4, z5, z6, z7⟩ := gnd_cells (HG.out w5 hbel)
    have HG5 := Lib.hid (HG.out w5 hbel)
    have HBE := Lib.hid hbel
    have hap := aranchor_any (k : Int) (by omega) w5
    by_cases hlt : k < 2
    · rw [show (k : Int) % 2 = k by omega] at hap
      have HAP := Lib.hid hap
      have hrd := (H0.out.keep HB5.out) w5 (Below.refl _ _) k (by constructor <;> omega)
      have HRD := Lib.hid hrd
      have hki : (k : Int) < 2 := by omega
      have wk : IntKind.u32.wrap ((k : Int) + 1) = ((k + 1 : Nat) : Int) := by rw [IntWalk.u32_in _ (by omega)]; omega
      clear hap hrd hbel
      generalize hE : (epN row k).1 = ep at *
      generalize hF : (epN row k).2 = fd at *
      have HEF := Lib.hid (And.intro hE hF)
      clear hE hF
      go_wp2_with fail
      refine HAP.out.mono ?_
      rintro e w' ⟨rfl, rfl⟩
      go_wp2_with fail
      refine HRD.out.mono ?_
      rintro e w6 ⟨⟨v, rfl, ha⟩, hb6⟩
      have key : ∃ A xs n c b, v = .tuple #[.slice A (n : Nat) (c : Nat), .bool b] ∧ (row (k : Int)).getD [] = xs ∧ xs.length = n ∧ n ≤ c ∧ c ≤ 64 ∧ AllB xs ∧ Byt w6 A xs := by
        rcases ha with ⟨h1, rfl⟩ | ⟨p, b, h1, h2, rfl, _, h3⟩
        · exact ⟨none, [], 0, 0, false, rfl, by rw [h1]; rfl, rfl, by omega, by omega, (fun x hx => by cases hx), (fun i x hx => by cases hx)⟩
        · exact ⟨_, b, 64, 64, true, rfl, by rw [h1]; rfl, h2.1, by omega, by omega, h2.2, byt_blk h3 (by simp)⟩
      obtain ⟨A, xs, n1, c1, b1, rfl, hxs, hn1, hc1, hc2, hB1, hy1⟩ := key
      have hta := takea_any 0 A xs n1 c1 w6 (by omega) hn1 hc1 (by omega) hB1 hy1
      have HTA := Lib.hid hta
      have HXS := Lib.hid hxs
      have HE4 := Lib.hid (takeA_lt 0 xs hB1)
      have HG6 := kb hb6 HG5.out
      have HB6 := Lib.hid (keepB HBE.out hb6)
      have HG6' := Lib.hid HG6
      clear ha hxs hn1 hc1 hc2 hB1 hy1 hb6 hta z0 z1 z2 z3 z4 z5 z6 z7
      obtain ⟨z0, z1, z2, z3, z4, z5, z6, z7⟩ := gnd_cells HG6
      clear HG6
      generalize ht : takeA 0 xs = ta at *
      have HT := Lib.hid ht
      clear ht
      go_wp2_with fail
      refine HTA.out.mono ?_
      rintro e w7 ⟨rfl, hb7⟩
      have HB7 := Lib.hid (keepB HB6.out hb7)
      clear hb7 z0 z1 z2 z3 z4 z5 z6 z7 HTA HAP HRD
      by_cases htk : TakenA 0 xs
      · rw [decide_eq_true htk]
        have hap := aranchor_any (ta : Int) (by omega) w7
        have HAP := Lib.hid hap
        clear hap
        obtain ⟨t2, ht2⟩ : ∃ t2 : Nat, (ta : Int) % 2 = t2 ∧ Hid (t2 = ta % 2) := ⟨ta % 2, by omega, rfl⟩
        rw [ht2.1] at HAP
        have HT2 := ht2.2
        clear ht2
        go_wp2_with fail
        refine HAP.out.mono ?_
        rintro e w' ⟨rfl, rfl⟩
        by_cases hpl : t2 = k
        · have hd : ((t2 : Int) == k) = true := by simp; omega
          have HNX : Hid (epN row (k + 1) = (max ep ta, true)) := by
            show (if anOk ((row (k : Int)).getD []) k then (max (epN row k).1 (takeA 0 ((row (k : Int)).getD [])), true) else epN row k) = _
            rw [HXS.out, HT.out, HEF.out.1]
            unfold anOk
            rw [decide_eq_true htk, HT.out, ← HT2.out, decide_eq_true hpl]; rfl
          have HMX : Hid (max ep ta < 4294967296) := by have := HE4.out; have := HEP.out; unfold Hid; omega
          clear hpl htk
          by_cases hmx : ep < ta
          · have hd2 : decide ((ep : Int) < ta) = true := decide_eq_true (by omega)
            go_wp2
            go_roundw
            case rel => exact ⟨k + 1, by go_num, by omega, by rw [HNX.out]; rw [Nat.max_eq_right (by omega)], by rw [HNX.out], (by rw [HNX.out]; exact HMX.out), HB7.out⟩
            case measure => simp [intOf]; omega
          · have hd2 : decide ((ep : Int) < ta) = false := decide_eq_false (by omega)
            go_wp2
            go_roundw
            case rel => exact ⟨k + 1, by go_num, by omega, by rw [HNX.out]; rw [Nat.max_eq_left (by omega)], by rw [HNX.out], (by rw [HNX.out]; exact HMX.out), HB7.out⟩
            case measure => simp [intOf]; omega
        · have hd : ((t2 : Int) == k) = false := by simp; omega
          have HNX : Hid (epN row (k + 1) = epN row k) := by
            show (if anOk ((row (k : Int)).getD []) k then (max (epN row k).1 (takeA 0 ((row (k : Int)).getD [])), true) else epN row k) = _
            rw [HXS.out]
            unfold anOk
            rw [decide_eq_true htk, HT.out, ← HT2.out, decide_eq_false hpl]; rfl
          clear hpl htk
          go_wp2
          go_roundw
          case rel => exact ⟨k + 1, by go_num, by omega, by rw [HNX.out, HEF.out.1], by rw [HNX.out, HEF.out.2], (by rw [HNX.out, HEF.out.1]; exact HEP.out), HB7.out⟩
          case measure => simp [intOf]; omega
      · rw [decide_eq_false htk]
        have HNX : Hid (epN row (k + 1) = epN row k) := by
          show (if anOk ((row (k : Int)).getD []) k then (max (epN row k).1 (takeA 0 ((row (k : Int)).getD [])), true) else epN row k) = _
          rw [HXS.out]
          unfold anOk
          rw [decide_eq_false htk]; rfl
        clear htk
        go_wp2
        go_roundw
        case rel => exact ⟨k + 1, by go_num, by omega, by rw [HNX.out, HEF.out.1], by rw [HNX.out, HEF.out.2], (by rw [HNX.out, HEF.out.1]; exact HEP.out), HB7.out⟩
        case measure => simp [intOf]; omega
    · obtain rfl : k = 2 := by omega
      go_wp2
      go_ret2
      exact ⟨rfl, HB5.out⟩
end Go.Proofs.Ytamnpblijdgdaaa
