/- The law VolCrashes answers true for every input, and leaves its arguments alone. No condition. -/
import Derived.Test.YtamnpblijdgdaaaRows
import Derived.Test.YtamnpblijdgdaaaOC
import Derived.WalkKit
import Derived.ProofKit
import Derived.OpenShut
namespace Go.Proofs.Ytamnpblijdgdaaa.volCrashes
open Go.ChangeShapes Go.WideShapes Go.ChangeAt Go.RowKit Go.Joins
set_option linter.unusedVariables false
theorem own : ownKnob Try.prog.godebug = none := by kernel_rfl
theorem laidOut : laidOutB Try.prog = true := by kernel_rfl
set_option maxRecDepth 100000
theorem kind10 (k : Int) : ∃ t kk : Int, Int.tmod k 10 = t ∧ -10 < t ∧ t < 10 ∧ Int.tmod (t + 10) 10 = kk ∧ 0 ≤ kk ∧ kk ≤ 9 := by
  have h1 := Int.tmod_lt_of_pos k (show (0 : Int) < 10 by omega)
  have h2 := Int.lt_tmod_of_pos k (show (0 : Int) < 10 by omega)
  refine ⟨_, _, rfl, h2, h1, rfl, ?_⟩
  rw [Int.tmod_eq_emod_of_nonneg (by omega)]
  omega
def VC32 (ad wa : Addr) (p n cN N2 d2 k j ln xc t : Nat) (y : Wr) (i : Nat) (v : Value) (w : World) : Prop :=
  match i with
  | 0 => v = .slice (some ⟨p, 0, none⟩) n cN
  | 1 | 10 => v = .slice (some ad) N2 d2
  | 2 | 11 => v = .int .i64 (k : Int)
  | 3 | 12 => v = .pointer (some (ad.add (k * 3)))
  | 4 | 13 => v = .pointer (some ⟨(ad.add (k * 3)).block, (ad.add (k * 3)).off + 1, none⟩)
  | 5 | 14 => v = .slice (some wa) ln xc
  | 6 | 15 => v = .int .i64 (j : Int)
  | 7 | 8 | 16 => v = .pointer (some (wa.add (j * 58)))
  | 9 => v = .int .i64 (t : Int)
  | 17 => v = .pointer (some ⟨(wa.add (j * 58)).block, (wa.add (j * 58)).off + 1, none⟩)
  | 18 => v = .agg (blkA y.k y.bs)
  | 19 => v = .pointer (some ⟨p, t * 57, none⟩)
  | _ => True
theorem applyW_step {S : List Bk} {l : List Wr} {j t : Nat} {y : Wr} (hy : l[j]? = some y) (ht : y.t = (t : Int)) (hlt : t < S.length) : applyW S (l.take (j + 1)) = (applyW S (l.take j)).set t ⟨y.k, y.bs⟩ := by
  rw [take_snoc' hy, applyW_append]
  show (if 0 ≤ y.t ∧ y.t < (applyW S (l.take j)).length then (applyW S (l.take j)).set y.t.toNat ⟨y.k, y.bs⟩ else _) = _
  rw [if_pos ⟨by omega, by rw [applyW_length]; omega⟩, ht, Int.toNat_natCast]
theorem below_alloc {B : Nat} {w W : World} (h : Below B w W) (hB : B ≤ W.heap.size) (o : Obj) : Below B w (W.alloc o) := h.alloc hB o
set_option maxHeartbeats 6400000 in
theorem walk (x0 : Int) (x1 : Int) (A2 : Option Addr) (l2 : List Wd) (d2 : Nat) (x3 : Int) (A4 : Option Addr) (l4 : List Int) (d4 : Nat) (A5 : Option Addr) (l5 : List Int) (d5 : Nat) (x6 : Int) (w : World) (hx0 : 0 ≤ x0 ∧ x0 ≤ 255) (hx1 : 0 ≤ x1 ∧ x1 ≤ 255) (hd2 : l2.length ≤ d2) (hm2 : d2 ≤ 9223372036854775807) (hB2 : WdsOk l2) (hy2 : Wds w A2 l2) (hx3 : 0 ≤ x3 ∧ x3 ≤ 65535) (hd4 : l4.length ≤ d4) (hm4 : d4 ≤ 9223372036854775807) (hB4 : AllB l4) (hy4 : Byt w A4 l4) (hd5 : l5.length ≤ d5) (hm5 : d5 ≤ 9223372036854775807) (hB5 : AllB l5) (hy5 : Byt w A5 l5) (hx6 : 0 ≤ x6 ∧ x6 ≤ 255) :
    Calls Try.prog 3 #[.int .u8 x0, .int .u8 x1, .slice A2 l2.length d2, .int .u16 x3, .slice A4 l4.length d4, .slice A5 l5.length d5, .int .u8 x6] w fun e w' => e = .returned (.bool true) ∧ Below w.heap.size w w' := by
  have HY2 := Lib.hid hy2
  have HB2 := Lib.hid hB2
  have HY4 := Lib.hid hy4
  have HB4 := Lib.hid hB4
  have HY5 := Lib.hid hy5
  have HB5 := Lib.hid hB5
  obtain ⟨a, rfl⟩ : ∃ a : Nat, x0 = (a : Int) := ⟨x0.toNat, by omega⟩
  obtain ⟨b, rfl⟩ : ∃ b : Nat, x1 = (b : Int) := ⟨x1.toNat, by omega⟩
  obtain ⟨st3, rfl⟩ : ∃ s : Nat, x3 = (s : Int) := ⟨x3.toNat, by omega⟩
  obtain ⟨st6, rfl⟩ : ∃ s : Nat, x6 = (s : Int) := ⟨x6.toNat, by omega⟩
  have ha : a ≤ 255 ∧ b ≤ 255 ∧ st3 ≤ 65535 ∧ st6 ≤ 255 := by omega
  obtain ⟨N2, hN2⟩ : ∃ N, l2.length = N := ⟨_, rfl⟩
  obtain ⟨N4, hN4⟩ : ∃ N, l4.length = N := ⟨_, rfl⟩
  obtain ⟨N5, hN5⟩ : ∃ N, l5.length = N := ⟨_, rfl⟩
  rw [hN2] at hd2 ⊢
  rw [hN4] at hd4 ⊢
  rw [hN5] at hd5 ⊢
  have HN2 := Lib.hid hN2
  have HN4 := Lib.hid hN4
  have HN5 := Lib.hid hN5
  clear hy2 hB2 hN2 hy4 hB4 hN4 hy5 hB5 hN5 hx0 hx1 hx3 hx6
  go_enter Try.func3, Try.ntmps3
  go_wp2_with fail
  refine (begun9_any w).mono ?_
  rintro e w0 ⟨rfl, hb0⟩
  have HB0 := Lib.hid hb0
  clear hb0
  go_wp2_with fail
  refine (light_any A2 l2 N2 d2 w0 HN2.out hd2 hm2 HB2.out (HY2.out.keep HB0.out)).mono ?_
  rintro e w' ⟨rfl, rfl⟩
  cases hli : lightK l2
  · go_wp2
    go_ret
    exact ⟨rfl, HB0.out⟩
  have HLI2 := Lib.hid ((lightK_iff l2).1 hli).1
  have HLL2 := Lib.hid ((lightK_iff l2).1 hli).2
  clear hli
  by_cases h40 : 40 < N4
  · have h40i : (40 : Int) < N4 := by omega
    go_wp2
    go_ret
    exact ⟨rfl, HB0.out⟩
  have h40i : (N4 : Int) ≤ 40 := by omega
  by_cases h50 : 40 < N5
  · have h50i : (40 : Int) < N5 := by omega
    go_wp2
    go_ret
    exact ⟨rfl, HB0.out⟩
  have h50i : (N5 : Int) ≤ 40 := by omega
  go_wp2_with fail
  refine (share_any a b (by omega) (by omega) w0).mono ?_
  rintro e w1 ⟨rfl, hb1⟩
  have HB1 := Lib.hid (HB0.out.trans (hb1.mono HB0.out.size))
  clear hb1 HB0 h40i h50i
  obtain ⟨G, hG⟩ : ∃ G, 16 + b % 30 = G := ⟨_, rfl⟩
  obtain ⟨n, hn⟩ : ∃ n, 4 + a % 30 = n := ⟨_, rfl⟩
  have hG1 : 16 ≤ G ∧ G ≤ 45 ∧ 4 ≤ n ∧ n ≤ 33 := by omega
  rw [hG, hn]
  have HST := Lib.hid (started (n := n) (g := G) (by omega) (by omega))
  clear hG hn
  go_upto_region 6 with (refine wpList_storeS rfl (.tmp 15) (.tmp 52) rfl w1.heap.size rfl n G 3 rfl _ rfl (heap_alloc_new w1 _) ?_)
  have e2 := setRow_blk (D := shC n G 3) (heap_alloc_new w1 (Obj.cells #[.int .i64 0, .int .i64 0, .int .i64 0, .int .i64 0, .int .i64 0] 30))
  have hb2 : Below w1.heap.size w1 ((w1.alloc (Obj.cells #[.int .i64 0, .int .i64 0, .int .i64 0, .int .i64 0, .int .i64 0] 30)).setRow w1.heap.size (shC n G 3)) := below_setRow ((Below.refl _ _).alloc (Nat.le_refl _) _) (Nat.le_refl _) _
  have HB2s := Lib.hid (HB1.out.trans (hb2.mono HB1.out.size))
  obtain ⟨g9, hg9⟩ : ∃ g9, g9 = w1.heap.size := ⟨_, rfl⟩
  rw [← hg9] at e2 hb2 HB2s ⊢
  clear hb2 HB1 hg9
  generalize (w1.alloc (Obj.cells #[.int .i64 0, .int .i64 0, .int .i64 0, .int .i64 0, .int .i64 0] 30)).setRow g9 (shC n G 3) = w2 at *
  simp only [Act.put]
  have HE2 := Lib.hid e2
  clear e2
  go_wp2_with (refine wpList_loadS rfl (.tmp 15) rfl g9 rfl n G 3 HE2.out ?_)
  refine (size_any 0 0 n G 3 (by omega) (by omega) w2).mono ?_
  rintro e w3 ⟨rfl, hb3⟩
  have HE3 := Lib.hid (kb hb3 HE2.out)
  have HB3s := Lib.hid (HB2s.out.trans (hb3.mono HB2s.out.size))
  clear hb3 HE2 HB2s
  go_wp2_with fail
  refine (new_at _ w3.heap.size [((2 + G + n : Nat) : Int)] 1 rfl (may1 n G (by omega) (by omega)) (fun x hx => by simp at hx; subst hx; constructor <;> omega) _ (heap_alloc_new w3 _)).mono ?_
  rintro e w4 ⟨⟨q, F, rfl, hd, hF⟩, hb4⟩
  have hba := HB3s.out.alloc HB3s.out.size (Obj.cells #[.int .i64 ((2 + G + n : Nat) : Int)] 3)
  have hds := DS.made hba hd hF hb4
  have hg9 : g9 < (w3.alloc (Obj.cells #[.int .i64 ((2 + G + n : Nat) : Int)] 3)).heap.size := by
    have h1 := room_lt HE3.out
    have h2 := ((Below.refl w3.heap.size w3).alloc (Nat.le_refl _) (Obj.cells #[.int .i64 ((2 + G + n : Nat) : Int)] 3)).size
    omega
  have HE4 := Lib.hid (kb hb4 (kb ((Below.refl w3.heap.size w3).alloc (Nat.le_refl _) (Obj.cells #[.int .i64 ((2 + G + n : Nat) : Int)] 3)) HE3.out))
  have HS3 := Lib.hid (And.intro hg9 hba.size)
  have HD4 := Lib.hid hds
  clear hd hF hb4 hba hds hg9 HE3 HB3s
  generalize (w3.alloc (Obj.cells #[.int .i64 ((2 + G + n : Nat) : Int)] 3)).heap.size = s3 at *
  go_wp2_with (refine wpList_loadSw rfl (.tmp 15) rfl g9 rfl n G 3 HE4.out ?_)
  refine (make1 (n := n) (g := G) (by omega) (by omega) HD4.out).mono ?_
  rintro e w5 ⟨rfl, hd5', hs5⟩
  have HE5 := Lib.hid ((hs5.blk g9 HS3.out.1).trans HE4.out)
  have HD5 := Lib.hid hd5'
  clear hd5' hs5 HE4 HD4
  go_wp2_with (refine wpList_loadS rfl (.tmp 15) rfl g9 rfl n G 3 HE5.out ?_)
  refine (mount1 (n := n) (g := G) (by omega) (by omega) HD5.out).mono ?_
  rintro e w6 ⟨hp, rb, rfl, hsv, hs6, hlo1, hlo2⟩
  have hg9l := room_lt HE5.out
  have hwl := HD5.out.bel.size
  have HNE : Hid (Rst (fun k => k < s3 ∨ k = hp ∨ k = rb) hp rb g9 ∧ ∀ k, k < w.heap.size → Rst (fun k => k < s3 ∨ k = hp ∨ k = rb) hp rb k) := ⟨⟨Or.inl HS3.out.1, by omega, by omega⟩, fun k hk => ⟨Or.inl (Nat.lt_of_lt_of_le hk HS3.out.2), by omega, by omega⟩⟩
  have HE6 := Lib.hid ((hs6.blk g9 HS3.out.1).trans HE5.out)
  have HSV := Lib.hid hsv
  have HVK : Hid ((stW n G).n = n ∧ (stW n G).Ok) := ⟨HST.out.n_, HST.out.live.tied.vok⟩
  clear hsv hs6 hlo1 hlo2 hg9l hwl HE5 HD5
  generalize hPP : (fun k => k < s3 ∨ k = hp ∨ k = rb) = P0 at *
  clear hPP HS3
  obtain ⟨m0, hm0⟩ : ∃ m, m = stM n G := ⟨_, rfl⟩
  obtain ⟨v0, hv0⟩ : ∃ v, v = stW n G := ⟨_, rfl⟩
  rw [← hm0, ← hv0] at HST HSV
  rw [← hv0] at HVK
  clear hm0 hv0
  go_wp2_with fail
  go_loopw [21, 22, 23, 24] (fun sl i p b wr => ∃ j : Nat, i = .int .i64 j ∧ j ≤ n ∧ Hid (OwnK wr w6.heap.size sl ((stV v0).take j)) ∧ Hid (Below w6.heap.size w6 wr)) (fun _ i _ _ _ => n - (intOf i).toNat)
  case atStart => exact ⟨0, rfl, by omega, OwnK.nil _ _, brefl _⟩
  case round =>
    obtain ⟨j, rfl, hj, HOW, HBR⟩ := hrel
    obtain ⟨wa, rfl⟩ : ∃ wa, wa = wr := ⟨wr, rfl⟩
    obtain ⟨z0, z1, z2, z3, z4⟩ := sh_cells (kb HBR.out HE6.out)
    by_cases hjn : j < n
    · have hji : (j : Int) < n := by omega
      obtain ⟨x, hx⟩ : ∃ x, v0.B[j]? = some x := ⟨_, List.getElem?_eq_getElem (by rw [HVK.out.2.len, HVK.out.1]; exact hjn)⟩
      have hxo := HVK.out.2.ok x (List.mem_of_getElem? hx)
      have hsx : (stV v0)[j]? = some (val x) := by unfold stV; rw [List.getElem?_map, hx]; rfl
      have HTK : Hid ((stV v0).take (j + 1) = (stV v0).take j ++ [val x]) := take_snoc' hsx
      have hget := vget_any (HSV.out.at_.below HBR.out) j (by constructor <;> omega)
      obtain ⟨g1, g2⟩ := getB_in HVK.out.2.len hx
      rw [g1, g2] at hget
      have HGET := Lib.hid hget
      have HX5 := Lib.hid hxo.len
      clear hxo hsx hget g1 g2 hx
      go_wp2_with fail
      refine HGET.out.mono ?_
      rintro e w10 ⟨rfl, hb10⟩
      have HB10 := Lib.hid (HBR.out.trans (hb10.mono HBR.out.size))
      have HOW10 := Lib.hid (HOW.out.keep hb10)
      clear hb10 HGET z0 z1 z2 z3 z4
      go_upto_region 18 with (first | (refine wpList_allocB rfl rfl ?_) | (refine wpList_storeB rfl (.tmp 23) (.tmp 90) rfl w10.heap.size rfl x.k 0 x.bs zBs rfl HX5.out zBs_len (heap_alloc_new w10 _) ?_))
      have hb11 : Below w10.heap.size w10 ((w10.alloc (Obj.cells (blkA 0 zBs) 46)).setRow w10.heap.size (blkA x.k x.bs)) := below_setRow ((Below.refl _ _).alloc (Nat.le_refl _) _) (Nat.le_refl _) _
      have e11 := setRow_blk (D := blkA x.k x.bs) (heap_alloc_new w10 (Obj.cells (blkA 0 zBs) 46))
      have HB11 := Lib.hid (HB10.out.trans (hb11.mono HB10.out.size))
      have HOW11 := Lib.hid (HOW10.out.keep hb11)
      have HG17 := Lib.hid e11
      clear hb11 e11 HOW10 HB10
      generalize (w10.alloc (Obj.cells (blkA 0 zBs) 46)).setRow w10.heap.size (blkA x.k x.bs) = w11 at *
      generalize w10.heap.size = g17 at *
      try simp only [Act.put]
      have hba : Below w11.heap.size w11 (w11.alloc (Obj.cells (blkA x.k x.bs) 46)) := (Below.refl _ _).alloc (Nat.le_refl _) _
      have HOA := Lib.hid (HOW11.out.keep hba)
      have HBA := Lib.hid (HB11.out.trans (hba.mono HB11.out.size))
      have HWA := Lib.hid (heap_alloc_new w11 (Obj.cells (blkA x.k x.bs) 46))
      clear hba HOW11 HB11
      go_upto_region 16 with (first
        | (refine wpList_loadB rfl (.tmp 23) rfl g17 rfl x.k x.bs HX5.out HG17.out ?_)
        | (refine wpList_oneB rfl (.tmp 93) rfl x.k x.bs HX5.out rfl ?_)
        | (refine wpList_app_bk rfl (.tmp 92) (.tmp 94) rfl w6.heap.size _ ((stV v0).take j) rfl HOA.out w11.heap.size (val x) HX5.out rfl HWA.out (by rw [List.length_take]; omega) HBA.out.size (fun v' w' h1 h2 => ?_);
           have HO2 := Lib.hid h1; have HB4s := Lib.hid (HBA.out.trans h2); clear h1 h2 HOA HWA HBA))
      go_wp2
      go_roundw
      case rel => exact ⟨j + 1, by go_num, by omega, by rw [HTK.out]; exact HO2.out, HB4s.out⟩
      case measure => simp [intOf]; omega
    · obtain rfl : n = j := by omega
      have hji : ¬ (n : Int) < n := by omega
      have how := HOW.out
      have hsl := stV_length HVK.out.2
      rw [HVK.out.1] at hsl
      rw [List.take_of_length_le (by rw [hsl]; exact Nat.le_refl _)] at how
      obtain ⟨Aw, dw, rfl, hdw1, hdw2, _⟩ := how.bksR (R := fun _ => True) (stV_oks HVK.out.2) (fun _ _ _ => trivial)
      rw [hsl] at hdw1 how ⊢
      have hlp := HSV.out.ds.low hp HSV.out.ph
      have hlr := HSV.out.ds.low rb HSV.out.pr
      have hlw := HSV.out.ds.bel.size
      have hsg := HSV.out.grow HBR.out (Q := fun k => w6.heap.size ≤ k ∧ k < wa.heap.size) (fun k hk => hk)
      have HSO : Hid ((stV v0).length = n ∧ BksOk (stV v0)) := ⟨hsl, stV_oks HVK.out.2⟩
      have hrk : RowK wa (fun k => Rst (fun k => P0 k ∨ (w6.heap.size ≤ k ∧ k < wa.heap.size)) hp rb k ∧ w.heap.size ≤ k) (.slice Aw n dw) (stV v0) := how.rowK (fun k h1 h2 => ⟨⟨Or.inr ⟨h1, h2⟩, by omega, by omega⟩, by omega⟩)
      have HRK := Lib.hid hrk
      have HSG := Lib.hid hsg
      have HPG : Hid (Rst (fun k => P0 k ∨ (w6.heap.size ≤ k ∧ k < wa.heap.size)) hp rb g9 ∧ ∀ k, k < w.heap.size → Rst (fun k => P0 k ∨ (w6.heap.size ≤ k ∧ k < wa.heap.size)) hp rb k) := ⟨⟨Or.inl HNE.out.1.1, HNE.out.1.2⟩, fun k hk => ⟨Or.inl (HNE.out.2 k hk).1, (HNE.out.2 k hk).2⟩⟩
      have HEA := Lib.hid (kb HBR.out HE6.out)
      have HLW : Hid (hp < wa.heap.size ∧ rb < wa.heap.size ∧ w.heap.size ≤ wa.heap.size) := by have := HBR.out.size; exact ⟨by omega, by omega, by omega⟩
      clear how hsl hsg hrk HOW HBR HE6 HSV HNE hlp hlr hlw
      generalize hPP : (fun k => P0 k ∨ (w6.heap.size ≤ k ∧ k < wa.heap.size)) = P1 at *
      clear hPP
      go_upto_region 20 with (refine wpList_pushT (R := fun k => Rst P1 hp rb k ∧ w.heap.size ≤ k) (L := []) rfl (.tmp 96) (.tmp 98) rfl (RowsAt.nil _ _ _ _ _ _ _) rfl rfl rfl (by simp) ?_; intro sv7 w7 vs h1 h2 h3 hg; have HP1 := Lib.hid h1; have HP2 := Lib.hid h2; have HP3 := Lib.hid h3; have HP4 := Lib.hid hg; clear h1 h2 h3 hg)
      have hsv7 := HSG.out.push HP1.out HP4.out (fun k hk => ⟨hk.1.1, hk.2⟩)
      have hst7 : Sts w7 (fun k => Rst (fun k => P1 k ∨ (wa.heap.size ≤ k ∧ k < w7.heap.size)) hp rb k ∧ w.heap.size ≤ k) sv7 ([] ++ [stV v0]) := Sts.push HP1.out HP2.out HRK.out HP3.out HP4.out (fun k hk => ⟨⟨Or.inl hk.1.1, hk.1.2⟩, hk.2⟩) (fun k h1 h2 => by have := HLW.out; exact ⟨⟨Or.inr ⟨h1, h2⟩, by omega, by omega⟩, by omega⟩)
      rw [show ([] ++ [stV v0] : List (List Bk)) = [stV v0] from rfl] at hst7
      have hst8 := CrI.start hsv7 HST.out (by omega) (kept_type HP1.out HP4.out HEA.out types_ne4) ⟨Or.inl HPG.out.1.1, HPG.out.1.2⟩ (fun k hk => ⟨Or.inl (HPG.out.2 k hk).1, (HPG.out.2 k hk).2⟩) hst7
      obtain ⟨As, ds, rfl, hds1, hds2⟩ := RowsAt.val hst7
      have HS8 := Lib.hid (fun (t : Nat) (ht : t ≤ 1000) => hst8 t ht)
      clear z0 z1 z2 z3 z4 hsv7 hst7 hst8 HP1 HP2 HP3 HP4 HSG HPG HEA HLW HRK HST hdw1 hdw2
      generalize hPP : (fun k => P1 k ∨ (wa.heap.size ≤ k ∧ k < w7.heap.size)) = P2 at *
      clear hPP
      have f1 : (st3 : Int).tmod 300 = ((st3 % 300 : Nat) : Int) := by rw [Int.tmod_eq_emod_of_nonneg (by omega)]; omega
      have f2 : IntKind.u16.wrap ((st3 % 300 : Nat) : Int) = ((st3 % 300 : Nat) : Int) := IntWalk.u16_in _ (by omega)
      have f3 : IntKind.i64.wrap ((st3 % 300 : Nat) : Int) = ((st3 % 300 : Nat) : Int) := IntWalk.i64_in _ (by omega)
      have hS3 : st3 % 300 ≤ 1000 := by omega
      generalize st3 % 300 = S3 at *
      simp only [List.length_singleton]
      go_wp2_with fail
      refine (HS8.out S3 hS3).mono ?_
      rintro e w8 ⟨rfl, hci⟩
      rw [show [stV v0].length = 1 from rfl] at hci
      have HCI := Lib.hid hci
      have HLK : Hid (∀ S ∈ [stV v0], S.length = n ∧ BksOk S) := fun S hS => by rw [List.mem_singleton.1 hS]; exact HSO.out
      clear hci HS8 HSO f1 f2 f3 hS3 HVK
      generalize m0.stop S3 = m1 at *
      generalize hL0 : [stV v0] = L0 at *
      have HL0 : Hid (L0.length = 1) := by rw [← hL0]; rfl
      clear hL0
      go_wp2_with fail
      go_loopw [20, 25, 26, 27, 28, 29] (fun sv su i s27 s28 s29 wr => ∃ (k sure LN d : Nat) (A : Option Addr) (P : Nat → Prop) (m : DM) (v : VM) (L : List (List Bk)), i = .int .i64 k ∧ k ≤ N2 ∧ sv = .slice A LN d ∧ su = .int .i64 sure ∧ LN ≤ 1 + k ∧ Hid (L.length = LN) ∧ Hid (∀ S ∈ L, S.length = n ∧ BksOk S) ∧ Hid (CrI w wr P q hp rb g9 n G k m v (.slice A LN d) L L sure)) (fun _ _ i _ _ _ _ => N2 - (intOf i).toNat)
      case atStart => exact ⟨0, 0, 1, ds, As, P2, m1, v0, L0, rfl, by omega, rfl, rfl, by omega, HL0.out, HLK.out, HCI.out⟩
      case round =>
        clear HCI HLK HL0
        obtain ⟨k, sure, LN, d, A, P, m, v, L, rfl, hk, rfl, rfl, hLN, HLN, HLK, HI⟩ := hrel
        obtain ⟨w9, rfl⟩ : ∃ w9, w9 = wr := ⟨wr, rfl⟩
        by_cases hlt : k < N2
        · have hki : (k : Int) < N2 := by omega
          obtain ⟨x, hx⟩ : ∃ x, l2[k]? = some x := ⟨_, List.getElem?_eq_getElem (by rw [HN2.out]; exact hlt)⟩
          have hxo := HB2.out x (List.mem_of_getElem? hx)
          obtain ⟨ad0, hA0, hw0⟩ := HY2.out k x hx
          obtain ⟨ad, rfl, hw⟩ := (HY2.out.keep HI.out.sv_.ds.bel) k x hx
          injection hA0 with hA0
          subst hA0
          have HW0 := Lib.hid hw0
          have HXO := Lib.hid hxo
          have c0 := hw.c0
          have hk40 : k ≤ 40 := by have := HLI2.out; have := HN2.out; omega
          obtain ⟨st, hst⟩ : ∃ b, Proofs.Ytamnpblijdgdaaa.stopped m = b := ⟨_, rfl⟩
          have hsp := HI.out.stopped
          rw [hst] at hsp
          have HSP := Lib.hid hsp
          have HSTM := Lib.hid hst
          have HX := Lib.hid hx
          clear hsp hst hxo hw0 hw hx
          go_upto_block 3 with fail
          go_cut [20, 25, 27, 28, 29] (fun sv su s27 s28 s29 wx => ∃ (sure' LN' d' : Nat) (A' : Option Addr) (P' : Nat → Prop) (m' : DM) (v' : VM) (L' : List (List Bk)), sv = .slice A' LN' d' ∧ su = .int .i64 sure' ∧ LN' ≤ 2 + k ∧ Hid (L'.length = LN') ∧ Hid (∀ S ∈ L', S.length = n ∧ BksOk S) ∧ Hid (CrI w wx P' q hp rb g9 n G (k + 1) m' v' (.slice A' LN' d') L' L' sure'))
          case first =>
            obtain ⟨t, kk, ht, ht1, ht2, hkk, hk0, hk1⟩ := kind10 x.k
            have hwt : IntKind.i64.wrap t = t := IntWalk.i64_in _ (by omega)
            have hwt2 : IntKind.i64.wrap (t + 10) = t + 10 := IntWalk.i64_in _ (by omega)
            have hwk : IntKind.i64.wrap kk = kk := IntWalk.i64_in _ (by omega)
            go_wp2_with fail
            refine HSP.out.mono ?_
            rintro e w' ⟨rfl, rfl⟩
            go_upto_region 26 with fail
            go_cut [120] (fun s wx => s = .int .i64 kk ∧ wx = w9)
            case first =>
              go_wp2_with fail
              go_meet
              case rel => exact ⟨rfl, rfl⟩
            case rest =>
            obtain ⟨rfl, rfl⟩ := hcut
            clear c0 ht hkk hwt hwt2 hwk ht1 ht2 HSP
            obtain ⟨LM, hLM⟩ : ∃ LM, LM = LN - 1 := ⟨_, rfl⟩
            have hLpos : 1 ≤ LN := by have := HI.out.run.su; have := HLN.out; omega
            have hwLM : IntKind.i64.wrap ((LN : Int) - 1) = (LM : Int) := by rw [IntWalk.i64_in _ (by omega)]; omega
            have HLM := Lib.hid hLM
            clear hLM
            have hwLN : IntKind.i64.wrap (LN : Int) = (LN : Int) := IntWalk.i64_in _ (by omega)
            rcases (by omega : kk = 6 ∨ kk = 7 ∨ (kk ≠ 6 ∧ kk ≠ 7)) with rfl | rfl | ⟨hn6, hn7⟩
            · have hsy := HI.out.sync hk40
              obtain ⟨s2, hs2⟩ : ∃ b, Proofs.Ytamnpblijdgdaaa.stopped (m.doBarrier ((0 : Nat) : Int)) = b := ⟨_, rfl⟩
              rw [hs2] at hsy
              have HSY := Lib.hid hsy
              have HS2 := Lib.hid hs2
              clear hsy hs2 hk0 hk1
              go_wp2_with fail
              refine HSY.out.mono ?_
              rintro e w10 ⟨rfl, hi10⟩
              have hsp := hi10.stopped
              rw [HS2.out] at hsp
              have HSP := Lib.hid hsp
              have HI10 := Lib.hid hi10
              clear hsp hi10 HSY HI
              go_wp2_with fail
              refine HSP.out.mono ?_
              rintro e w' ⟨rfl, rfl⟩
              cases s2
              · have hi := HI10.out
                rw [show (if (false : Bool) = true then sure else L.length - 1) = LM by rw [HLM.out, HLN.out]; rfl] at hi
                have HI11 := Lib.hid hi
                clear hi HI10 HSP
                go_wp2
                go_meet
                case rel => exact ⟨LM, LN, d, A, P, _, v, L, rfl, rfl, by omega, HLN.out, HLK.out, HI11.out⟩
              · have HI11 : Hid (CrI w w10 P q hp rb g9 n G (k + 1) (m.doBarrier ((0 : Nat) : Int)) v (.slice A LN d) L L sure) := HI10.out
                clear HI10 HSP
                go_wp2
                go_meet
                case rel => exact ⟨sure, LN, d, A, P, _, v, L, rfl, rfl, by omega, HLN.out, HLK.out, HI11.out⟩
            · have hsy := HI.out.tidy hk40 (by omega)
              obtain ⟨s2, hs2⟩ : ∃ b, Proofs.Ytamnpblijdgdaaa.stopped (tidyM m v) = b := ⟨_, rfl⟩
              rw [hs2] at hsy
              have HSY := Lib.hid hsy
              have HS2 := Lib.hid hs2
              clear hsy hs2 hk0 hk1
              go_wp2_with fail
              refine HSY.out.mono ?_
              rintro e w10 ⟨rfl, hi10⟩
              have hsp := hi10.stopped
              rw [HS2.out] at hsp
              have HSP := Lib.hid hsp
              have HI10 := Lib.hid hi10
              clear hsp hi10 HSY HI
              go_wp2_with fail
              refine HSP.out.mono ?_
              rintro e w' ⟨rfl, rfl⟩
              cases s2
              · have hi := HI10.out
                rw [show (if (false : Bool) = true then sure else L.length - 1) = LM by rw [HLM.out, HLN.out]; rfl] at hi
                have HI11 := Lib.hid hi
                clear hi HI10 HSP
                go_wp2
                go_meet
                case rel => exact ⟨LM, LN, d, A, P, _, _, L, rfl, rfl, by omega, HLN.out, HLK.out, HI11.out⟩
              · have HI11 : Hid (CrI w w10 P q hp rb g9 n G (k + 1) (tidyM m v) (homeV v) (.slice A LN d) L L sure) := HI10.out
                clear HI10 HSP
                go_wp2
                go_meet
                case rel => exact ⟨sure, LN, d, A, P, _, _, L, rfl, rfl, by omega, HLN.out, HLK.out, HI11.out⟩
            · have hnd6 : (kk == 6) = false := by simp; exact hn6
              have hnd7 : (kk == 7) = false := by simp; exact hn7
              have hw := ((HY2.out.keep HI.out.sv_.ds.bel) k x HX.out)
              obtain ⟨ad1, hA1, hw⟩ := hw
              injection hA1 with hA1
              subst hA1
              have c1 := hw.c1
              have hch := HI.out.change hk40 (by omega) (by omega) (by omega) x.A x.l x.l.length x.c rfl HXO.out.lc HXO.out.cm HXO.out.ok (Wrs.old HW0.out.wr hw.wr HI.out.old)
              have HCH := Lib.hid hch
              obtain ⟨ln, hln⟩ : ∃ ln, x.l.length = ln := ⟨_, rfl⟩
              have hl14 : ln ≤ 14 := by rw [← hln]; exact (HLL2.out x (List.mem_of_getElem? HX.out)).1
              rw [hln] at c1 HCH
              have HLNX := Lib.hid hln
              clear hch hw hln
              obtain ⟨xA, hxA⟩ : ∃ xA, x.A = xA := ⟨_, rfl⟩
              obtain ⟨xc, hxc⟩ : ∃ xc, x.c = xc := ⟨_, rfl⟩
              rw [hxA, hxc] at HCH c1
              have HXA := Lib.hid (And.intro hxA hxc)
              clear hxA hxc
              obtain ⟨m2, hm2'⟩ : ∃ m2, chM m v x.l = m2 := ⟨_, rfl⟩
              obtain ⟨v2, hv2'⟩ : ∃ v2, chV v x.l = v2 := ⟨_, rfl⟩
              rw [hm2', hv2'] at HCH
              clear hm2' hv2' hk0 hk1 hn6 hn7
              by_cases hc : ChOk v x.l ∧ st = false
              · obtain ⟨hc1, hc2⟩ := hc
                subst hc2
                rw [if_pos hc1] at HCH
                have HC1 := Lib.hid hc1
                have e9 : (if ChOk v x.l ∧ Proofs.Ytamnpblijdgdaaa.stopped m = false then L ++ [applyW (stV v) x.l] else L) = L ++ [applyW (stV v) x.l] := if_pos ⟨hc1, HSTM.out⟩
                rw [e9] at HCH
                have HLAST : Hid (L[LM]? = some (stV v)) := by
                  obtain ⟨_, _, _, _, h1, _⟩ := HI.out.run.go HSTM.out
                  rw [HLN.out, ← HLM.out] at h1; exact h1
                have HVOK := Lib.hid HI.out.run.vok
                clear hc1 e9
                go_wp2_with fail
                refine HCH.out.mono ?_
                rintro e w10 ⟨rfl, hi10⟩
                have HI10 := Lib.hid hi10
                clear hi10 HCH HI
                have hsl := HLK.out (stV v) (List.mem_of_getElem? HLAST.out)
                obtain ⟨g1, cap1, gu, du, hv1, hc1, hrk1, hdu1, hdu2⟩ := HI10.out.st.get HLAST.out hsl.1 (by omega) hsl.2
                injection hv1 with hA1 ex1 ex2
                clear ex1 ex2
                subst hA1
                have HSO := Lib.hid hsl
                have HRK1 := Lib.hid hrk1
                have ca : (w10.alloc (Obj.cells #[] 46)).cell? ⟨g1, LM, none⟩ = some (.slice (some ⟨gu, 0, none⟩) n du) := keepA hc1 _
                have hlm1 : (LM : Int) < LN := by rw [HLM.out]; omega
                clear hsl hrk1 hc1 c1
                go_upto_region 29 with (refine wpList_copyK rfl (.tmp 133) (.tmp 139) rfl rfl rfl HRK1.out HSO.out.1 HSO.out.2 (by omega) (fun v11 w11 h1 h2 => ?_); have HC11 := Lib.hid h1; have HB11 := Lib.hid h2; clear h1 h2)
                clear ca hlm1
                obtain ⟨p, cN, rfl, hpb, _, hcn1, hcn2, _, _⟩ := RowAt.pos HC11.out (by rw [HSO.out.1]; omega)
                rw [HSO.out.1] at HC11 hcn1 ⊢
                have HPB := Lib.hid hpb
                clear hpb HRK1
                obtain ⟨w9, hw9⟩ : ∃ w9, w9 = w10 := ⟨_, rfl⟩
                subst hw9
                go_wp2_with fail
                go_loopw [29] (fun i wr => ∃ j : Nat, i = .int .i64 j ∧ j ≤ ln ∧ Hid (RowK wr (fun k => w9.heap.size ≤ k) (.slice (some ⟨p, 0, none⟩) n cN) (applyW (stV v) (x.l.take j))) ∧ Hid (Below w9.heap.size w9 wr)) (fun i _ => ln - (intOf i).toNat)
                case atStart => exact ⟨0, rfl, by omega, by rw [List.take_zero]; exact HC11.out, HB11.out⟩
                case round =>
                  clear HC11 HB11
                  obtain ⟨j, rfl, hj, HRW, HBR⟩ := hrel
                  obtain ⟨wr5, rfl⟩ : ∃ w5, w5 = wr := ⟨wr, rfl⟩
                  have hbw := HI10.out.sv_.ds.bel.trans (HBR.out.mono HI10.out.sv_.ds.bel.size)
                  obtain ⟨ad2, hA2, hw2⟩ := (HY2.out.keep hbw) k x HX.out
                  injection hA2 with hA2
                  subst hA2
                  have c1 := hw2.c1
                  rw [HLNX.out, HXA.out.1, HXA.out.2] at c1
                  by_cases hjl : j < ln
                  · have hji : (j : Int) < ln := by omega
                    obtain ⟨y, hy⟩ : ∃ y, x.l[j]? = some y := ⟨_, List.getElem?_eq_getElem (by rw [HLNX.out]; exact hjl)⟩
                    obtain ⟨wa, hwA, hwy⟩ := hw2.wr j y hy
                    have hyo := HXO.out.ok y (List.mem_of_getElem? hy)
                    have htv := (List.all_eq_true.1 HC1.out.2) y (List.mem_of_getElem? hy)
                    have hvn := HVOK.out.vn
                    unfold hasV at htv
                    simp only [Bool.and_eq_true, decide_eq_true_eq] at htv
                    obtain ⟨t, hyt⟩ : ∃ t : Nat, y.t = (t : Int) := ⟨y.t.toNat, by omega⟩
                    have htn : t < n := by omega
                    have hti : (t : Int) < n := by omega
                    rw [HXA.out.1] at hwA
                    subst hwA
                    have HCL : Hid (∀ W', Below wr5.heap.size wr5 W' → W'.cell? ⟨(ad.add (k * 3)).block, (ad.add (k * 3)).off + 1, none⟩ = some (.slice (some wa) ln xc) ∧ W'.cell? (wa.add (j * 58)) = some (.int .i64 (t : Int))) := fun W' hb => ⟨keepC hb c1, by rw [← hyt]; exact keepC hb hwy.c0⟩
                    have HRB : Hid (∀ W', Below wr5.heap.size wr5 W' → W'.rangeAt (wa.add (j * 58)).block ((wa.add (j * 58)).off + 1) (blkL y.k y.bs)) := fun W' hb i u hu => by
                      refine keepC hb ?_
                      have h1 := hwy (i + 1) u (by unfold wrL; exact hu)
                      rw [add_pos' _ _ (by omega)] at h1
                      rw [show (wa.add (j * 58)).off + 1 + i = (wa.add (j * 58)).off + (i + 1) by omega]
                      exact h1
                    have HTK : Hid (applyW (stV v) (x.l.take (j + 1)) = (applyW (stV v) (x.l.take j)).set t ⟨y.k, y.bs⟩) := applyW_step hy hyt (by rw [HSO.out.1]; exact htn)
                    have hsl : (applyW (stV v) (x.l.take j)).length = n := by rw [applyW_length]; exact HSO.out.1
                    have HSL := Lib.hid hsl
                    have HOK : Hid (BksOk (applyW (stV v) (x.l.take j))) := applyW_ok (fun z hz => HXO.out.ok z (List.mem_of_mem_take hz)) (fun z hz => HC1.out.1.kinds z (List.mem_of_mem_take hz)) HSO.out.2
                    have HRW' : Hid (RowAt wr5 (fun k => w9.heap.size ≤ k) 46 57 (.slice (some ⟨p, 0, none⟩) n cN) n (bksL (applyW (stV v) (x.l.take j)))) := by have h1 := HRW.out; unfold RowK at h1; rw [hsl] at h1; exact h1
                    have HTH : Hid (∀ W', Below wr5.heap.size wr5 W' → W'.there p (t * 57) 57) := fun W' hb => RowAt.there (HRW'.out.below hb) (t * 57) 57 (by have : (t + 1) * 57 ≤ n * 57 := Nat.mul_le_mul_right _ htn; omega)
                    have HY56 := Lib.hid hyo.len
                    clear hyo htv hvn hwy hw2 hy hyt hbw hsl HRW
                    generalize applyW (stV v) (x.l.take j) = Sj at *
                    go_upto_region 32 with fail
                    clear c1
                    refine wp_region_rgk (VC32 ad wa p n cN N2 d2 k j ln xc t y) (fun _ W => Below wr5.heap.size wr5 W) (fun _ w w' => Below w.heap.size w w') (by kernel_rfl) (by kernel_rfl) (fun i j v w w' _ _ h hs => by unfold VC32 at *; exact h) ((Below.refl _ _).drew) ?_
                    simp only [RAll]
                    refine ⟨?_, ?_, ?_, ?_, ?_, ?_, ?_, ?_, ?_, ?_, ?_, ?_, ?_, ?_, ?_, ?_, ?_, ?_, ?_, ?_, ?_⟩
                    · refine RStepK.of rfl fun T W L hag hL hJ hLs hd => ?_   -- 0: 151 := Op.move (Operand.tmp 28)
                      have e28 : T.getD 28 undef = _ := (agree_at hag 28 (by kernel_rfl)).trans rfl
                      clear hag hd
                      go_simp
                      first | exact ⟨_, rfl, rfl⟩ | exact ⟨_, rfl, rfl, brefl _⟩ | exact ⟨_, rfl, rfl, hJ, brefl _⟩
                    · refine RStepK.of rfl fun T W L hag hL hJ hLs hd => ?_   -- 1: 152 := Op.move (Operand.tmp 2)
                      have e2 : T.getD 2 undef = _ := (agree_at hag 2 (by kernel_rfl)).trans rfl
                      clear hag hd
                      go_simp
                      first | exact ⟨_, rfl, rfl⟩ | exact ⟨_, rfl, rfl, brefl _⟩ | exact ⟨_, rfl, rfl, hJ, brefl _⟩
                    · refine RStepK.of rfl fun T W L hag hL hJ hLs hd => ?_   -- 2: 153 := Op.move (Operand.tmp 26)
                      have e26 : T.getD 26 undef = _ := (agree_at hag 26 (by kernel_rfl)).trans rfl
                      clear hag hd
                      go_simp
                      first | exact ⟨_, rfl, rfl⟩ | exact ⟨_, rfl, rfl, brefl _⟩ | exact ⟨_, rfl, rfl, hJ, brefl _⟩
                    · refine RStepK.of rfl fun T W L hag hL hJ hLs hd => ?_   -- 3: 154 := Op.indexAddr 22 (Operand.tmp 152) (Operand.tmp 153)
                      have d152 : T.getD 152 undef = _ := hd ⟨1, .data⟩ (by simp) rfl _ rfl
                      have d153 : T.getD 153 undef = _ := hd ⟨2, .data⟩ (by simp) rfl _ rfl
                      clear hag hd
                      go_simp
                      first | exact ⟨_, rfl, rfl⟩ | exact ⟨_, rfl, rfl, brefl _⟩ | exact ⟨_, rfl, rfl, hJ, brefl _⟩
                    · refine RStepK.of rfl fun T W L hag hL hJ hLs hd => ?_   -- 4: 155 := Op.fieldAddr 52 (Operand.tmp 154) 1
                      have d154 : T.getD 154 undef = _ := hd ⟨3, .data⟩ (by simp) rfl _ rfl
                      clear hag hd
                      go_simp
                      first | exact ⟨_, rfl, rfl⟩ | exact ⟨_, rfl, rfl, brefl _⟩ | exact ⟨_, rfl, rfl, hJ, brefl _⟩
                    · refine RStepK.of rfl fun T W L hag hL hJ hLs hd => ?_   -- 5: 156 := Op.load 50 (Operand.tmp 155)
                      have d155 : T.getD 155 undef = _ := hd ⟨4, .data⟩ (by simp) rfl _ rfl
                      obtain ⟨z1, z2⟩ := HCL.out W hJ
                      clear hag hd
                      go_simp
                      first | exact ⟨_, rfl, rfl⟩ | exact ⟨_, rfl, rfl, brefl _⟩ | exact ⟨_, rfl, rfl, hJ, brefl _⟩
                    · refine RStepK.of rfl fun T W L hag hL hJ hLs hd => ?_   -- 6: 157 := Op.move (Operand.tmp 29)
                      have e29 : T.getD 29 undef = _ := (agree_at hag 29 (by kernel_rfl)).trans rfl
                      clear hag hd
                      go_simp
                      first | exact ⟨_, rfl, rfl⟩ | exact ⟨_, rfl, rfl, brefl _⟩ | exact ⟨_, rfl, rfl, hJ, brefl _⟩
                    · refine RStepK.of rfl fun T W L hag hL hJ hLs hd => ?_   -- 7: 158 := Op.indexAddr 50 (Operand.tmp 156) (Operand.tmp 157)
                      have d156 : T.getD 156 undef = _ := hd ⟨5, .data⟩ (by simp) rfl _ rfl
                      have d157 : T.getD 157 undef = _ := hd ⟨6, .data⟩ (by simp) rfl _ rfl
                      clear hag hd
                      go_simp
                      first | exact ⟨_, rfl, rfl⟩ | exact ⟨_, rfl, rfl, brefl _⟩ | exact ⟨_, rfl, rfl, hJ, brefl _⟩
                    · refine RStepK.of rfl fun T W L hag hL hJ hLs hd => ?_   -- 8: 159 := Op.fieldAddr 55 (Operand.tmp 158) 0
                      have d158 : T.getD 158 undef = _ := hd ⟨7, .data⟩ (by simp) rfl _ rfl
                      clear hag hd
                      go_simp
                      first | exact ⟨_, rfl, rfl⟩ | exact ⟨_, rfl, rfl, brefl _⟩ | exact ⟨_, rfl, rfl, hJ, brefl _⟩
                    · refine RStepK.of rfl fun T W L hag hL hJ hLs hd => ?_   -- 9: 160 := Op.load 3 (Operand.tmp 159)
                      have d159 : T.getD 159 undef = _ := hd ⟨8, .data⟩ (by simp) rfl _ rfl
                      obtain ⟨z1, z2⟩ := HCL.out W hJ
                      clear hag hd
                      go_simp
                      first | exact ⟨_, rfl, rfl⟩ | exact ⟨_, rfl, rfl, brefl _⟩ | exact ⟨_, rfl, rfl, hJ, brefl _⟩
                    · refine RStepK.of rfl fun T W L hag hL hJ hLs hd => ?_   -- 10: 161 := Op.move (Operand.tmp 2)
                      have e2 : T.getD 2 undef = _ := (agree_at hag 2 (by kernel_rfl)).trans rfl
                      clear hag hd
                      go_simp
                      first | exact ⟨_, rfl, rfl⟩ | exact ⟨_, rfl, rfl, brefl _⟩ | exact ⟨_, rfl, rfl, hJ, brefl _⟩
                    · refine RStepK.of rfl fun T W L hag hL hJ hLs hd => ?_   -- 11: 162 := Op.move (Operand.tmp 26)
                      have e26 : T.getD 26 undef = _ := (agree_at hag 26 (by kernel_rfl)).trans rfl
                      clear hag hd
                      go_simp
                      first | exact ⟨_, rfl, rfl⟩ | exact ⟨_, rfl, rfl, brefl _⟩ | exact ⟨_, rfl, rfl, hJ, brefl _⟩
                    · refine RStepK.of rfl fun T W L hag hL hJ hLs hd => ?_   -- 12: 163 := Op.indexAddr 22 (Operand.tmp 161) (Operand.tmp 162)
                      have d161 : T.getD 161 undef = _ := hd ⟨10, .data⟩ (by simp) rfl _ rfl
                      have d162 : T.getD 162 undef = _ := hd ⟨11, .data⟩ (by simp) rfl _ rfl
                      clear hag hd
                      go_simp
                      first | exact ⟨_, rfl, rfl⟩ | exact ⟨_, rfl, rfl, brefl _⟩ | exact ⟨_, rfl, rfl, hJ, brefl _⟩
                    · refine RStepK.of rfl fun T W L hag hL hJ hLs hd => ?_   -- 13: 164 := Op.fieldAddr 52 (Operand.tmp 163) 1
                      have d163 : T.getD 163 undef = _ := hd ⟨12, .data⟩ (by simp) rfl _ rfl
                      clear hag hd
                      go_simp
                      first | exact ⟨_, rfl, rfl⟩ | exact ⟨_, rfl, rfl, brefl _⟩ | exact ⟨_, rfl, rfl, hJ, brefl _⟩
                    · refine RStepK.of rfl fun T W L hag hL hJ hLs hd => ?_   -- 14: 165 := Op.load 50 (Operand.tmp 164)
                      have d164 : T.getD 164 undef = _ := hd ⟨13, .data⟩ (by simp) rfl _ rfl
                      obtain ⟨z1, z2⟩ := HCL.out W hJ
                      clear hag hd
                      go_simp
                      first | exact ⟨_, rfl, rfl⟩ | exact ⟨_, rfl, rfl, brefl _⟩ | exact ⟨_, rfl, rfl, hJ, brefl _⟩
                    · refine RStepK.of rfl fun T W L hag hL hJ hLs hd => ?_   -- 15: 166 := Op.move (Operand.tmp 29)
                      have e29 : T.getD 29 undef = _ := (agree_at hag 29 (by kernel_rfl)).trans rfl
                      clear hag hd
                      go_simp
                      first | exact ⟨_, rfl, rfl⟩ | exact ⟨_, rfl, rfl, brefl _⟩ | exact ⟨_, rfl, rfl, hJ, brefl _⟩
                    · refine RStepK.of rfl fun T W L hag hL hJ hLs hd => ?_   -- 16: 167 := Op.indexAddr 50 (Operand.tmp 165) (Operand.tmp 166)
                      have d165 : T.getD 165 undef = _ := hd ⟨14, .data⟩ (by simp) rfl _ rfl
                      have d166 : T.getD 166 undef = _ := hd ⟨15, .data⟩ (by simp) rfl _ rfl
                      clear hag hd
                      go_simp
                      first | exact ⟨_, rfl, rfl⟩ | exact ⟨_, rfl, rfl, brefl _⟩ | exact ⟨_, rfl, rfl, hJ, brefl _⟩
                    · refine RStepK.of rfl fun T W L hag hL hJ hLs hd => ?_   -- 17: 168 := Op.fieldAddr 55 (Operand.tmp 167) 1
                      have d167 : T.getD 167 undef = _ := hd ⟨16, .data⟩ (by simp) rfl _ rfl
                      clear hag hd
                      go_simp
                      first | exact ⟨_, rfl, rfl⟩ | exact ⟨_, rfl, rfl, brefl _⟩ | exact ⟨_, rfl, rfl, hJ, brefl _⟩
                    · refine RStepK.of rfl fun T W L hag hL hJ hLs hd => ?_   -- 18: 169 := Op.load 46 (Operand.tmp 168)
                      have d168 : T.getD 168 undef = _ := hd ⟨17, .data⟩ (by simp) rfl _ rfl
                      clear hag
                      refine wp_load_mid 46 (.tmp 168) rfl _ _ d168 (blkL y.k y.bs) _ (HRB.out W hJ) Try.underlying46 rfl (by rw [blkL_len HY56.out]; exact size24b) ?_
                      exact ⟨_, rfl, rfl, hJ, brefl _⟩
                    · refine RStepK.of rfl fun T W L hag hL hJ hLs hd => ?_   -- 19: 170 := Op.indexAddr 43 (Operand.tmp 151) (Operand.tmp 160)
                      have d151 : T.getD 151 undef = _ := hd ⟨0, .data⟩ (by simp) rfl _ rfl
                      have d160 : T.getD 160 undef = _ := hd ⟨9, .data⟩ (by simp) rfl _ rfl
                      clear hag hd
                      go_simp
                      first | exact ⟨_, rfl, rfl⟩ | exact ⟨_, rfl, rfl, brefl _⟩ | exact ⟨_, rfl, rfl, hJ, brefl _⟩
                    · refine RLastK.of rfl fun T W L hag hLs hL hJ hd => ?_   -- 20: None := Op.store 46 (Operand.tmp 170) (Operand.tmp 169)
                      have d170 : T.getD 170 undef = _ := hd 19 _ (by simp) rfl
                      have d169 : T.getD 169 undef = _ := hd 18 _ (by simp) rfl
                      obtain ⟨f, hf, hT⟩ := agree_fn hag
                      have d151 : T.getD 151 undef = _ := hd 0 _ (by simp) rfl
                      have h151 := (hf 151).trans d151
                      have d152 : T.getD 152 undef = _ := hd 1 _ (by simp) rfl
                      have h152 := (hf 152).trans d152
                      have d153 : T.getD 153 undef = _ := hd 2 _ (by simp) rfl
                      have h153 := (hf 153).trans d153
                      have d154 : T.getD 154 undef = _ := hd 3 _ (by simp) rfl
                      have h154 := (hf 154).trans d154
                      have d155 : T.getD 155 undef = _ := hd 4 _ (by simp) rfl
                      have h155 := (hf 155).trans d155
                      have d156 : T.getD 156 undef = _ := hd 5 _ (by simp) rfl
                      have h156 := (hf 156).trans d156
                      have d157 : T.getD 157 undef = _ := hd 6 _ (by simp) rfl
                      have h157 := (hf 157).trans d157
                      have d158 : T.getD 158 undef = _ := hd 7 _ (by simp) rfl
                      have h158 := (hf 158).trans d158
                      have d159 : T.getD 159 undef = _ := hd 8 _ (by simp) rfl
                      have h159 := (hf 159).trans d159
                      have d160 : T.getD 160 undef = _ := hd 9 _ (by simp) rfl
                      have h160 := (hf 160).trans d160
                      have d161 : T.getD 161 undef = _ := hd 10 _ (by simp) rfl
                      have h161 := (hf 161).trans d161
                      have d162 : T.getD 162 undef = _ := hd 11 _ (by simp) rfl
                      have h162 := (hf 162).trans d162
                      have d163 : T.getD 163 undef = _ := hd 12 _ (by simp) rfl
                      have h163 := (hf 163).trans d163
                      have d164 : T.getD 164 undef = _ := hd 13 _ (by simp) rfl
                      have h164 := (hf 164).trans d164
                      have d165 : T.getD 165 undef = _ := hd 14 _ (by simp) rfl
                      have h165 := (hf 165).trans d165
                      have d166 : T.getD 166 undef = _ := hd 15 _ (by simp) rfl
                      have h166 := (hf 166).trans d166
                      have d167 : T.getD 167 undef = _ := hd 16 _ (by simp) rfl
                      have h167 := (hf 167).trans d167
                      have d168 : T.getD 168 undef = _ := hd 17 _ (by simp) rfl
                      have h168 := (hf 168).trans d168
                      have h169 := (hf 169).trans d169
                      have h170 := (hf 170).trans d170
                      have HJ := Lib.hid hJ
                      clear hag hd d151 d152 d153 d154 d155 d156 d157 d158 d159 d160 d161 d162 d163 d164 d165 d166 d167 d168 d169 d170 hJ hf
                      rw [hT]
                      clear hT
                      simp only [List.pop_toArray, List.dropLast_cons_cons, List.dropLast_singleton, List.filterMap_cons, List.filterMap_nil, List.foldl_cons, List.foldl_nil, List.setIfInBounds_toArray, List.set_cons_succ, List.set_cons_zero, h151, h152, h153, h154, h155, h156, h157, h158, h159, h160, h161, h162, h163, h164, h165, h166, h167, h168, h169, h170]
                      have hth := HTH.out W HJ.out
                      refine wp_store_mid 46 (.tmp 170) (.tmp 169) rfl p (t * 57) _ rfl rfl (by rw [blkA_size HY56.out]; exact hth) (by rw [blkA_size HY56.out]; exact size24b) (blkA_one _ _) ?_
                      have hrow := RowAt.storedMany (HRW'.out.below HJ.out) (t * 57) (blkL y.k y.bs) (by rw [blkL_len HY56.out]; have : (t + 1) * 57 ≤ n * 57 := Nat.mul_le_mul_right _ htn; omega)
                      have hbs := below_setCells (blkL y.k y.bs) (t * 57) (HBR.out.trans (HJ.out.mono HBR.out.size)) (show w9.heap.size ≤ p from HPB.out)
                      have HRW2 := Lib.hid hrow
                      have HBR2 := Lib.hid hbs
                      clear hth hrow hbs HJ
                      rw [show (blkA y.k y.bs).toList = blkL y.k y.bs from rfl]
                      generalize W.setCells p (t * 57) (blkL y.k y.bs) = W3 at *
                      simp only [Act.put]
                      go_wp2
                      go_roundw
                      case rel =>
                        refine ⟨j + 1, by go_num, by omega, ?_, HBR2.out⟩
                        have h1 := HRW2.out
                        have h2 : splice (bksL Sj) (t * 57) (blkL y.k y.bs) = bksL (Sj.set t ⟨y.k, y.bs⟩) := bksL_set (y := ⟨y.k, y.bs⟩) HOK.out (by rw [HSL.out]; exact htn) HY56.out
                        rw [h2] at h1
                        rw [HTK.out]
                        unfold RowK
                        rw [List.length_set, HSL.out]
                        exact h1
                      case measure => simp [intOf]; omega
                  · obtain rfl : ln = j := by omega
                    have hji : ¬ (ln : Int) < ln := by omega
                    have hrw := HRW.out
                    rw [List.take_of_length_le (by rw [HLNX.out]; exact Nat.le_refl _)] at hrw
                    have hlp := HI10.out.sv_.ds.low hp HI10.out.sv_.ph
                    have hlr := HI10.out.sv_.ds.low rb HI10.out.sv_.pr
                    have hlw := HI10.out.sv_.ds.bel.size
                    have hgr := HI10.out.grow HBR.out (Q := fun k => w9.heap.size ≤ k ∧ k < wr5.heap.size) (fun k hk => hk)
                    have hrk : RowK wr5 (fun k => Rst (fun k => P k ∨ (w9.heap.size ≤ k ∧ k < wr5.heap.size)) hp rb k ∧ w.heap.size ≤ k) (.slice (some ⟨p, 0, none⟩) n cN) (applyW (stV v) x.l) := RowAt.owner hrw (fun k h1 h2 => ⟨⟨Or.inr ⟨h2, h1⟩, by omega, by omega⟩, by omega⟩)
                    have HGR := Lib.hid hgr
                    have HRK := Lib.hid hrk
                    have HSN : Hid ((applyW (stV v) x.l).length = n ∧ BksOk (applyW (stV v) x.l)) := ⟨by rw [applyW_length]; exact HSO.out.1, applyW_ok HXO.out.ok HC1.out.1.kinds HSO.out.2⟩
                    clear hrw hlp hlr hlw hgr hrk hbw hw2 HRW HI10
                    generalize hPP : (fun k => P k ∨ (w9.heap.size ≤ k ∧ k < wr5.heap.size)) = P1 at *
                    clear hPP
                    generalize applyW (stV v) x.l = Sn at *
                    go_upto_region 33 with fail
                    clear c1
                    go_wp2_with (refine wpList_pushT (R := fun k => Rst P1 hp rb k ∧ w.heap.size ≤ k) (L := L) rfl (.tmp 171) (.tmp 173) rfl HGR.out.st rfl rfl rfl (by have := HLN.out; omega) ?_; intro sv7 w7 vs h1 h2 h3 hg; have HPP1 := Lib.hid h1; have HPP2 := Lib.hid h2; have HPP3 := Lib.hid h3; have HPP4 := Lib.hid hg; clear h1 h2 h3 hg)
                    have hpu := CrI.push HGR.out HPP1.out HPP2.out HRK.out HPP3.out HPP4.out
                    have hlk : ∀ S ∈ L ++ [Sn], S.length = n ∧ BksOk S := fun S hS => by
                      rcases List.mem_append.1 hS with hS | hS
                      · exact HLK.out S hS
                      · rw [List.mem_singleton.1 hS]; exact HSN.out
                    have hll : (L ++ [Sn]).length = LN + 1 := by rw [List.length_append, HLN.out]; rfl
                    obtain ⟨A7, d7, rfl, _, _⟩ := RowsAt.val hpu.st
                    rw [hll] at hpu ⊢
                    have HPU := Lib.hid hpu
                    have HLK7 := Lib.hid hlk
                    have HLL7 := Lib.hid hll
                    clear hpu hlk hll HPP1 HPP2 HPP3 HPP4 HRK HGR
                    go_meet
                    case rel => exact ⟨sure, LN + 1, d7, A7, _, m2, v2, L ++ [Sn], rfl, rfl, by omega, HLL7.out, HLK7.out, HPU.out⟩
              · have e9 : (if ChOk v x.l ∧ Proofs.Ytamnpblijdgdaaa.stopped m = false then L ++ [applyW (stV v) x.l] else L) = L := if_neg (by rw [HSTM.out]; exact hc)
                rw [e9] at HCH
                clear e9
                by_cases hc1 : ChOk v x.l
                · have hst1 : st = true := by
                    cases st
                    · exact absurd ⟨hc1, rfl⟩ hc
                    · rfl
                  subst hst1
                  rw [if_pos hc1] at HCH
                  clear hc hc1
                  go_wp2_with fail
                  refine HCH.out.mono ?_
                  rintro e w10 ⟨rfl, hi10⟩
                  have HI10 := Lib.hid hi10
                  clear hi10 HCH HI c1
                  go_wp2
                  go_meet
                  case rel => exact ⟨sure, LN, d, A, P, m2, v2, L, rfl, rfl, by omega, HLN.out, HLK.out, HI10.out⟩
                · rw [if_neg hc1] at HCH
                  clear hc hc1
                  go_wp2_with fail
                  refine HCH.out.mono ?_
                  rintro e w10 ⟨rfl, hi10⟩
                  have HI10 := Lib.hid hi10
                  clear hi10 HCH HI c1
                  go_wp2
                  go_meet
                  case rel => exact ⟨sure, LN, d, A, P, m2, v2, L, rfl, rfl, by omega, HLN.out, HLK.out, HI10.out⟩
          case rest =>
            obtain ⟨sure', LN', d', A', P', m', v', L', rfl, rfl, hLN', HLN', HLK', HI'⟩ := hcut
            clear HI HLK HLN HSP
            go_wp2
            go_roundw
            case rel => exact ⟨k + 1, sure', LN', d', A', P', m', v', L', by go_num, by omega, rfl, rfl, by omega, HLN'.out, HLK'.out, HI'.out⟩
            case measure => simp [intOf]; omega
        · obtain rfl : k = N2 := by omega
          have hki : ¬ (k : Int) < k := by omega
          have hk40 : k ≤ 40 := by have := HLI2.out; have := HN2.out; omega
          have hfz := HI.out.fzI hk40
          have hst := HI.out.st.mono (R' := P) (fun _ _ hk => hk.1.1)
          have hsu := HI.out.run.su
          have HST := Lib.hid hst
          have HSU := Lib.hid hsu
          have HFZ := Lib.hid hfz
          clear hfz hst hsu HI
          go_wp2_with fail
          have hba : Below w9.heap.size w9 (w9.alloc (Obj.cells #[.slice A4 N4 d4] 24)) := (Below.refl _ _).alloc (Nat.le_refl _) _
          have hna := heap_alloc_new w9 (Obj.cells #[.slice A4 N4 d4] 24)
          have hla := room_lt hna
          have hgr := HFZ.out.grow hba (Q := fun k => k = w9.heap.size) (fun k hk => by subst hk; exact ⟨Nat.le_refl _, hla⟩)
          have hcr := hgr.crash (by omega) HY4.out HB4.out (by rw [HN4.out]; exact hd4) hm4 (by rw [HN4.out]; exact hna) (Or.inr rfl)
          have hst1 := (HST.out.below hba).mono (R' := fun k' => P k' ∨ k' = w9.heap.size) (fun _ _ hk => Or.inl hk)
          have HCR := Lib.hid hcr
          have HST1 := Lib.hid hst1
          clear hba hna hla hgr hcr hst1 HST HFZ
          generalize hPP : (fun k' => P k' ∨ k' = w9.heap.size) = P5 at *
          clear hPP
          refine HCR.out.mono ?_
          rintro e w10 ⟨rfl, S1, hS1, hms, hns1, hs10⟩
          have HMS := Lib.hid hms
          have HA1 := Lib.hid hS1
          have HST2 := Lib.hid (HST1.out.same hs10)
          clear hS1 hms hns1 hs10 HCR HST1
          generalize m.crash [l4] = mc at *
          have f1 : (st6 : Int).tmod 40 = ((st6 % 40 : Nat) : Int) := by rw [Int.tmod_eq_emod_of_nonneg (by omega)]; omega
          have f2 : IntKind.u8.wrap ((st6 % 40 : Nat) : Int) = ((st6 % 40 : Nat) : Int) := IntWalk.u8_in _ (by omega)
          have f3 : IntKind.i64.wrap ((st6 % 40 : Nat) : Int) = ((st6 % 40 : Nat) : Int) := IntWalk.i64_in _ (by omega)
          have hS6 : st6 % 40 ≤ 1000 := by omega
          generalize st6 % 40 = S6 at *
          have HSP := Lib.hid (HMS.out.stop S6 hS6)
          go_wp2_with fail
          refine HSP.out.mono ?_
          rintro e w11 ⟨rfl, hms, hs11⟩
          have HMS2 := Lib.hid hms
          have HST3 := Lib.hid (HST2.out.same hs11)
          clear hms hs11 HSP HMS HST2 f1 f2 f3
          generalize mc.stop S6 = md at *
          have HMO := Lib.hid (HMS2.out.mount (by omega) (by omega) (by omega))
          go_wp2_with (refine wpList_loadS rfl (.tmp 15) rfl g9 rfl n G 3 HMS2.out.sh ?_)
          refine HMO.out.mono ?_
          rintro e w12 ⟨hq, rq, me, rfl, hfz, hs12⟩
          have HFZ := Lib.hid hfz
          have HST4 := Lib.hid (HST3.out.same hs12)
          clear hfz hs12 HMO HMS2 HST3
          go_wp2_with fail
          have hba : Below w12.heap.size w12 (w12.alloc (Obj.cells #[.slice A5 N5 d5] 24)) := (Below.refl _ _).alloc (Nat.le_refl _) _
          have hna := heap_alloc_new w12 (Obj.cells #[.slice A5 N5 d5] 24)
          have hla := room_lt hna
          have hgr := HFZ.out.grow hba (Q := fun k => k = w12.heap.size) (fun k hk => by subst hk; exact ⟨Nat.le_refl _, hla⟩)
          have hcr := hgr.crash (by omega) HY5.out HB5.out (by rw [HN5.out]; exact hd5) hm5 (by rw [HN5.out]; exact hna) (Or.inr rfl)
          have hst1 := (HST4.out.below hba).mono (R' := fun k' => P5 k' ∨ k' = w12.heap.size) (fun _ _ hk => Or.inl hk)
          have HCR := Lib.hid hcr
          have HST5 := Lib.hid hst1
          clear hba hna hla hgr hcr hst1 HST4 HFZ
          generalize hPP : (fun k' => P5 k' ∨ k' = w12.heap.size) = P6 at *
          clear hPP
          refine HCR.out.mono ?_
          rintro e w13 ⟨rfl, S2, rfl, hms, hns, hs13⟩
          have HPG : Hid (P6 g9) := hms.pgs
          have HMT := Lib.hid (hms.mtI hns)
          have HST6 := Lib.hid (HST5.out.same hs13)
          clear hms hs13 HCR HST5 hns
          generalize me.crash [l5] = mf at *
          have HMO := Lib.hid (HMT.out.mount (by omega) (by omega) (by omega) HPG.out)
          go_wp2_with (refine wpList_loadS rfl (.tmp 15) rfl g9 rfl n G 3 HMT.out.sh ?_)
          refine HMO.out.mono ?_
          rintro e w14 ⟨hp2, rb2, mg, vg, rfl, hgo, hstv, hs14, hl1, hl2⟩
          have HGO := Lib.hid hgo
          have HSTV := Lib.hid hstv
          have HST7 : Hid (Sts w14 (fun k => P6 k ∨ k = hp2 ∨ k = rb2) (.slice A LN d) L) := (HST6.out.same hs14).mono (fun _ _ hk => Or.inl hk)
          clear hgo hstv hs14 hl1 hl2 HMO HMT HST6
          obtain ⟨P7, hP7⟩ : ∃ P7 : Nat → Prop, P7 = (fun k => P6 k ∨ k = hp2 ∨ k = rb2) := ⟨_, rfl⟩
          rw [← hP7] at HGO HST7
          have HPG7 : Hid (P7 g9) := by rw [hP7]; exact Or.inl HPG.out
          clear hP7 HPG
          go_wp2_with fail
          go_loopw [32] (fun i wr => ∃ (j : Nat), i = .int .i64 j ∧ j ≤ LN ∧ Hid (Among L j S2) ∧ Hid (Below w14.heap.size w14 wr)) (fun i _ => LN - (intOf i).toNat)
          case atStart => exact ⟨sure, rfl, by have := HSU.out; have := HLN.out; omega, HA1.out, brefl _⟩
          case round =>
            obtain ⟨j, rfl, hj, HAM, HBR⟩ := hrel
            obtain ⟨wz, rfl⟩ : ∃ wz, wz = wr := ⟨wr, rfl⟩
            have hjl : j < LN := by
              obtain ⟨i, h1, h2⟩ := HAM.out
              have := (List.getElem?_eq_some_iff.1 h2).1
              have := HLN.out; omega
            have hji : (j : Int) < LN := by omega
            obtain ⟨S, hS⟩ : ∃ S, L[j]? = some S := ⟨_, List.getElem?_eq_getElem (by rw [HLN.out]; exact hjl)⟩
            have hso := HLK.out S (List.mem_of_getElem? hS)
            obtain ⟨g1, cap1, gu, du, hv1, hc1, hrk1, hdu1, hdu2⟩ := (HST7.out.below HBR.out).get hS hso.1 (by omega) hso.2
            injection hv1 with hA1 ex1 ex2
            clear ex1 ex2
            subst hA1
            obtain ⟨A', d', hv2, _, _, hbk⟩ := RowK.bksR hrk1 hso.2
            injection hv2 with hA2 ex1 ex2
            clear ex1 ex2
            subst hA2
            have hbl := blocks_any ((HGO.out.below HBR.out).sv.at_) (some ⟨gu, 0, none⟩) S n du hso.1 hdu1 hdu2 hso.2 hbk.bks
            rw [HSTV.out] at hbl
            have HBL := Lib.hid hbl
            have HSS := Lib.hid hS
            have HSO := Lib.hid hso
            clear hbl hbk hrk1 hso hS
            go_wp2_with fail
            refine HBL.out.mono ?_
            rintro e w15 ⟨rfl, hb15⟩
            have HBR2 := Lib.hid (HBR.out.trans (hb15.mono HBR.out.size))
            by_cases hq2 : S2 = S
            · rw [decide_eq_true hq2]
              subst hq2
              have HGO2 := Lib.hid (HGO.out.below HBR2.out)
              have hst9 := HST7.out.below HBR2.out
              have HST9 := Lib.hid hst9
              have hmt := HGO2.out.mtI
              rw [HSTV.out] at hmt
              have HMT := Lib.hid hmt
              have HMO := Lib.hid (hmt.mount (by omega) (by omega) (by omega) HPG7.out)
              clear hmt hst9 hb15 HBL HGO hc1
              go_wp2_with (refine wpList_loadS rfl (.tmp 15) rfl g9 rfl n G 3 HMT.out.sh ?_)
              refine HMO.out.mono ?_
              rintro e w16 ⟨hp3, rb3, mh, vh, rfl, hgo, hstv, hs16, hl1, hl2⟩
              obtain ⟨g1', cap1', gu', du', hv1, hc1, hrk1, hdu1', hdu2'⟩ := (HST9.out.same hs16).get HSS.out HSO.out.1 (by omega) HSO.out.2
              injection hv1 with hA1 ex1 ex2
              clear ex1 ex2
              injection hA1 with hA1
              injection hA1 with hA1
              subst hA1
              obtain ⟨A', d', hv2, _, _, hbk⟩ := RowK.bksR hrk1 HSO.out.2
              injection hv2 with hA2 ex1 ex2
              clear ex1 ex2
              subst hA2
              have hbl := blocks_any hgo.sv.at_ (some ⟨gu', 0, none⟩) S2 n du' HSO.out.1 hdu1' hdu2' HSO.out.2 hbk.bks
              rw [decide_eq_true hstv] at hbl
              have HBL := Lib.hid hbl
              have HFIN := Lib.hid hgo.sv.ds.bel
              clear hbl hbk hrk1 hgo hstv hs16 hl1 hl2 HMO HMT HST9 HGO2
              go_wp2_with fail
              refine HBL.out.mono ?_
              rintro e w17 ⟨rfl, hb17⟩
              have HF := Lib.hid (HFIN.out.trans (hb17.mono HFIN.out.size))
              clear hb17 HBL hc1
              go_wp2_with fail
              go_ret
              exact ⟨rfl, HF.out⟩
            · rw [decide_eq_false hq2]
              have HAM2 : Hid (Among L (j + 1) S2) := by
                obtain ⟨i, h1, h2⟩ := HAM.out
                refine ⟨i, ?_, h2⟩
                have : i ≠ j := fun e => by subst e; rw [HSS.out] at h2; injection h2 with h2; exact hq2 h2.symm
                omega
              clear hb15 HBL hq2 hc1
              go_wp2
              go_roundw
              case rel => exact ⟨j + 1, by go_num, by omega, HAM2.out, HBR2.out⟩
              case measure => simp [intOf]; omega

set_option maxRecDepth 100000 in
theorem lifted (os : Os) (started : os.Started) (H : Type) (enc : TypeId × Value → H) :
    ReturnsInHanded {} Try.checked os 3 .any (Rows.volCrashesSpec.pre6 enc Try.prog Try.f3 Rows.volCrashesRow.domain false) (Rows.volCrashesSpec.post enc Try.prog Try.f3 false true false false) := by
  refine returnsInHanded_of_change (C := Try.checked) own started (by kernel_rfl) Try.func3
    (ChangeSpec.witness6 (enc := enc) (C := Try.checked) false ⟨#[], #[.int .u8 0, .int .u8 0, .slice none 0 0, .int .u16 0, .slice none 0 0, .slice none 0 0, .int .u8 0], []⟩ 8 (by kernel_rfl) (by kernel_rfl) (by kernel_rfl) (by kernel_rfl)) ?_
  intro W base args ds gs before hval0 hW hcnd _
  have hval : ∀ (j : Nat) t v, Try.f3.params[j]? = some t → args[j]? = some v → Value.okWide Try.prog W .any base t v := hval0
  have hW' := hW
  obtain ⟨p, q, hA0, hV, rfl, hfz, hnd⟩ := hW
  have hA : DataW.TrodAll enc Try.prog W 0 (fun _ => true) true Try.f3.params.toList args.toList ds p := hA0
  rw [Try.params3] at hA hval
  obtain ⟨v0, vs0, d0, ds0, p0, q0, hargs, rfl, rfl, h0, r0⟩ := trodAll_cons hA
  obtain ⟨v1, vs1, d1, ds1, p1, q1, rfl, rfl, rfl, h1, r1⟩ := trodAll_cons r0
  obtain ⟨v2, vs2, d2, ds2, p2, q2, rfl, rfl, rfl, h2, r2⟩ := trodAll_cons r1
  obtain ⟨v3, vs3, d3, ds3, p3, q3, rfl, rfl, rfl, h3, r3⟩ := trodAll_cons r2
  obtain ⟨v4, vs4, d4, ds4, p4, q4, rfl, rfl, rfl, h4, r4⟩ := trodAll_cons r3
  obtain ⟨v5, vs5, d5, ds5, p5, q5, rfl, rfl, rfl, h5, r5⟩ := trodAll_cons r4
  obtain ⟨v6, vs6, d6, ds6, p6, q6, rfl, rfl, rfl, h6, r6⟩ := trodAll_cons r5
  obtain ⟨rfl, rfl, rfl⟩ := trodAll_nil r6
  obtain rfl : args = #[v0, v1, v2, v3, v4, v5, v6] := by cases args; simp_all
  obtain ⟨rfl, rfl⟩ := trodVars_none hV
  obtain ⟨x0, rfl, rfl, rfl, wx0⟩ := open_int Try.underlying5 (hval 0 5 v0 rfl rfl) h0
  obtain ⟨x1, rfl, rfl, rfl, wx1⟩ := open_int Try.underlying5 (hval 1 5 v1 rfl rfl) h1
  obtain ⟨a2, len2, cap2, rfl⟩ := okWide_slice Try.underlying22 (hval 2 22 v2 rfl rfl)
  obtain ⟨x3, rfl, rfl, rfl, wx3⟩ := open_int Try.underlying23 (hval 3 23 v3 rfl rfl) h3
  obtain ⟨a4, len4, cap4, rfl⟩ := okWide_slice Try.underlying24 (hval 4 24 v4 rfl rfl)
  obtain ⟨a5, len5, cap5, rfl⟩ := okWide_slice Try.underlying24 (hval 5 24 v5 rfl rfl)
  obtain ⟨x6, rfl, rfl, rfl, wx6⟩ := open_int Try.underlying5 (hval 6 5 v6 rfl rfl) h6
  clear hA0 hval0
  simp only [List.append_nil] at hW'
  have hlt2 : ∀ y ∈ p2, y.block < W.heap.size := fun y hy => by simpa using hW'.lt y (by simp [hy])
  have harg2 : ∀ W' : World, Below W.heap.size W W' → DataW.Trod enc Try.prog W' 0 (fun b => decide (b < W.heap.size)) true 22 (.slice a2 len2 cap2) d2 p2 :=
    fun W' hn => Below.trod laidOut (by kernel_rfl) (of_decide_eq_true (by kernel_rfl)) h2 hn (fun y hy => hlt2 y hy)
  have hlt4 : ∀ y ∈ p4, y.block < W.heap.size := fun y hy => by simpa using hW'.lt y (by simp [hy])
  have harg4 : ∀ W' : World, Below W.heap.size W W' → DataW.Trod enc Try.prog W' 0 (fun b => decide (b < W.heap.size)) true 24 (.slice a4 len4 cap4) d4 p4 :=
    fun W' hn => Below.trod laidOut (by kernel_rfl) (of_decide_eq_true (by kernel_rfl)) h4 hn (fun y hy => hlt4 y hy)
  have hlt5 : ∀ y ∈ p5, y.block < W.heap.size := fun y hy => by simpa using hW'.lt y (by simp [hy])
  have harg5 : ∀ W' : World, Below W.heap.size W W' → DataW.Trod enc Try.prog W' 0 (fun b => decide (b < W.heap.size)) true 24 (.slice a5 len5 cap5) d5 p5 :=
    fun W' hn => Below.trod laidOut (by kernel_rfl) (of_decide_eq_true (by kernel_rfl)) h5 hn (fun y hy => hlt5 y hy)
  obtain ⟨fu2, hf2⟩ := h2
  obtain ⟨A2, l2, c2, e2, hd2, hm2, hy2, hB2⟩ := open_wds hf2
  simp [Value.cells] at e2
  obtain ⟨rfl, rfl, rfl⟩ := e2
  obtain ⟨fu4, hf4⟩ := h4
  obtain ⟨A4, l4, c4, e4, hd4, hm4, hy4, hB4⟩ := open_byt hf4
  simp [Value.cells] at e4
  obtain ⟨rfl, rfl, rfl⟩ := e4
  obtain ⟨fu5, hf5⟩ := h5
  obtain ⟨A5, l5, c5, e5, hd5, hm5, hy5, hB5⟩ := open_byt hf5
  simp [Value.cells] at e5
  obtain ⟨rfl, rfl, rfl⟩ := e5
  refine (walk x0 x1 a2 l2 cap2 x3 a4 l4 cap4 a5 l5 cap5 x6 W (by have := bounds_u8 wx0; omega) (by have := bounds_u8 wx1; omega) hd2 hm2 hB2 hy2 (by have := bounds_u16 wx3; omega) hd4 hm4 hB4 hy4 hd5 hm5 hB5 hy5 (by have := bounds_u8 wx6; omega)).mono fun e W' ⟨he, bel⟩ => ?_
  subst he
  exact ⟨_, rfl, _, _, _, [], _, [], hW', (trodAll_cons_mk (shut_bool Try.underlying4 _) trodAll_mk0), (trodAll_cons_mk (shut_int Try.underlying5 wx0) (trodAll_cons_mk (shut_int Try.underlying5 wx1) (trodAll_cons_mk (harg2 _ bel) (trodAll_cons_mk (shut_int Try.underlying23 wx3) (trodAll_cons_mk (harg4 _ bel) (trodAll_cons_mk (harg5 _ bel) (trodAll_cons_mk (shut_int Try.underlying5 wx6) trodAll_mk0))))))), rfl, bel.frame _, fun h => by cases h⟩

theorem over : Rows.volCrashesRow.holds Try.pinned (OpenSpec.ofChange Rows.volCrashesSpec) :=
  OpenClaim.holds_of_wide 3 Try.f3 rfl rfl rfl rfl rfl rfl rfl ⟨rfl, rfl, rfl, rfl, rfl⟩ rfl rfl rfl rfl rfl (by kernel_rfl) Try.func3 (by kernel_rfl)
    (of_decide_eq_true (by kernel_rfl)) (by unfold Func.isWrapper; first | (rw [if_pos (by decide +kernel)]; kernel_rfl) | (rw [if_neg (by decide +kernel)]; exact ⟨rfl, rfl⟩))
    (fun os started H enc _ => lifted os started H enc)

theorem proved : Rows.VolCrashesSaid :=
  over
#print axioms proved
end Go.Proofs.Ytamnpblijdgdaaa.volCrashes
