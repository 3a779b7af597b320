import Derived.Test.YtlmbkfdpgmmacaaB5
namespace Go.Proofs.Ytlmbkfdpgmmacaa
open Go.ChangeShapes Go.WideShapes Go.ChangeAt Go.RowKit
set_option linter.unusedVariables false
set_option maxRecDepth 100000 in
set_option maxHeartbeats 800000 in
theorem back_walk (HC0 : ConfigC) (A : Option Addr) (bs : List Int) (c : Nat) (cut more : Int) (w : World) (hl : bs.length ≤ 60) (hc : bs.length ≤ c) (hc2 : c ≤ 9223372036854775807) (hB : AllB bs) (hy : Byt w A bs)
    (h1 : 0 ≤ cut) (h2 : cut < 256) (h3 : 0 ≤ more) (h4 : more < 256) :
    Calls Try.prog 4 #[.slice A bs.length c, .int .u8 cut, .int .u8 more] w fun e w' => e = .returned (.bool true) ∧ Below w.heap.size w w' := by
  have HC : Hid (∀ pb W, PickAt W pb A bs c 0 → Calls Try.prog 20 #[.pointer (some ⟨pb, 0, none⟩), .int .i64 8] W fun e w' => ∃ v cs, e = .returned v ∧ mayConfV cs = true ∧ w'.ownsRow W.heap.size 47 5 v cs.length (cellsL cs) ∧ W.grownBy w' (some pb)) := fun pb W h => HC0 pb A bs c 0 W h hl hB
  have HY := Lib.hid hy
  have FM := Lib.hid (fun W (h : Byt W A bs) => made_any A bs c W hl hc h)
  clear hy hB HC0
  have q0 : decide (60 < (bs.length : Int)) = false := decide_eq_false (by omega)
  go_enter Try.func4, Try.ntmps4
  go_wp2_with fail
  refine (begun_any _).mono ?_; rintro e W0 ⟨rfl, hb0⟩
  have HB0 := Lib.hid hb0
  clear hb0
  go_wp2_with fail
  refine (FM.out W0 (HY.out.keep HB0.out)).mono ?_
  rintro e W1 ⟨pb, rfl, hp, hpl, hb1⟩
  have HPK := Lib.hid hp
  have HB1 := Lib.hid (keepB HB0.out hb1)
  have HPL := Lib.hid (Nat.le_trans HB0.out.size hpl)
  clear hp hb1 hpl
  go_wp2_with fail
  refine (HC.out pb W1 HPK.out).mono ?_
  rintro e W2 ⟨v, cs, rfl, hm, hown, hg⟩
  have HB2 := Lib.hid (belowG HB1.out hg HPL.out HB1.out.size)
  obtain ⟨Ac, dc, rfl, hd, hd2, hconf⟩ := conf_own hown
  have HCF := Lib.hid hconf
  have HM := Lib.hid hm
  have hlen := may_len hm
  have hpl := putL_length hm
  have FP := Lib.hid (fun W (h : Conf W Ac cs) => put_all2 Ac cs dc W (by omega) hd hd2 (may_ok hm) h)
  have FY := Lib.hid (fun W (h : Conf W Ac cs) => may_conf Ac cs dc W (by omega) hd hd2 (may_ok hm) h)
  clear hown hconf hg hm
  generalize hpn : (putL cs).length = pn at *
  generalize hcn : cs.length = cn at *
  have HPN := Lib.hid hpn
  have HCN := Lib.hid hcn
  clear hpn hcn
  have w1 : IntKind.i64.wrap (4 * (cn : Int)) = 4 * (cn : Int) := IntWalk.i64_in _ (by omega)
  have w2 : IntKind.i64.wrap (3 + 4 * (cn : Int)) = 3 + 4 * (cn : Int) := IntWalk.i64_in _ (by omega)
  have e1 : ((pn : Int) == 3 + 4 * (cn : Int)) = true := by rw [beq_iff_eq]; omega
  have e2 : decide ((pn : Int) = 3 + 4 * (cn : Int)) = true := decide_eq_true (by omega)
  go_wp2_with fail
  refine (FP.out W2 HCF.out).mono ?_
  rintro e W3 ⟨Ab, db, rfl, hyb, hdb, hdb2, hb3⟩
  have HB3 := Lib.hid (keepB HB2.out hb3)
  have HYB := Lib.hid hyb
  have hcf3 := HCF.out.keep hb3
  have HCF3 := Lib.hid hcf3
  clear hyb hb3 hcf3
  go_wp2_with fail
  refine (FY.out W3 HCF3.out).mono ?_
  rintro e W4 ⟨rfl, hb4⟩
  have HB4 := Lib.hid (keepB HB3.out hb4)
  have HYB4 := Lib.hid (HYB.out.keep hb4)
  have HCF4 := Lib.hid (HCF3.out.keep hb4)
  have hm' := HM.out
  rw [hm']
  clear hb4
  go_wp2_with fail
  with_reducible refine (take_yes Ab cs (3 + 4 * cn) cn db W4 HM.out (HPN.out.trans hpl) HCN.out (by omega) (by omega) hdb2 HYB4.out).mono ?_
  rintro e W5 ⟨Ax, dx, rfl, hcx, hb5⟩
  have HB5 := Lib.hid (keepB HB4.out hb5)
  have HYB5 := Lib.hid (HYB4.out.keep hb5)
  have HCF5 := Lib.hid (HCF4.out.keep hb5)
  have HCX := Lib.hid hcx
  clear hb5 hcx
  obtain ⟨ct, rfl⟩ : ∃ ct : Nat, cut = ct := ⟨cut.toNat, by omega⟩
  have g1 : IntKind.i64.wrap (ct : Int) = (ct : Int) := IntWalk.i64_in _ (by omega)
  obtain ⟨kk, hkk⟩ : ∃ kk, ct % (3 + 4 * cn) = kk := ⟨_, rfl⟩
  have hkl : kk < 3 + 4 * cn := by rw [← hkk]; exact Nat.mod_lt _ (by omega)
  have g2 : Int.tmod (ct : Int) (3 + 4 * (cn : Int)) = (kk : Int) := by rw [← hkk]; exact (Int.ofNat_tmod ct (3 + 4 * cn)).symm
  have g3 : ((3 + 4 * (cn : Int)) = 0) = False := by simp; omega
  have g4 : ((3 + 4 * (cn : Int)) == 0) = false := by simp; omega
  have g5 : IntKind.i64.wrap (kk : Int) = (kk : Int) := IntWalk.i64_in _ (by omega)
  clear hkk
  go_upto_region 10 with fail
  go_wp2_with fail
  have hkp : kk < (putL cs).length := by rw [HPN.out.trans hpl]; exact hkl
  have hab : AllB ((putL cs).take kk) := fun y hy => allB_put HM.out y (List.mem_of_mem_take hy)
  have HAB := Lib.hid hab
  clear hab
  with_reducible refine (take_no Ab ((putL cs).take kk) kk db W5 (by rw [List.length_take]; omega) (by omega) (by omega) hdb2 HAB.out (HYB5.out.take kk) (tkE_cut HM.out hkp)).mono ?_
  rintro e W6 ⟨v6, rfl, hb6⟩
  have HB6 := Lib.hid (keepB HB5.out hb6)
  have HYB6 := Lib.hid (HYB5.out.keep hb6)
  have HCF6 := Lib.hid (HCF5.out.keep hb6)
  have HCX6 := Lib.hid (HCX.out.keep hb6)
  clear hb6 hkp
  go_upto_region 11 with fail
  have HPN2 := Lib.hid (HPN.out.trans hpl)
  have o0 := own_new W6 W6.heap.size 5 0 #[] [] (Nat.le_refl _) rfl (by decide) rfl
  have HB7 := Lib.hid ((Below.refl W6.heap.size W6).alloc (Nat.le_refl _) (Obj.cells #[] 5))
  go_wp2_with (first
    | (at_builtin
       (refine wpList_app_byt _ rfl (.tmp 54) (.tmp 55) rfl W6.heap.size _ 0 [] rfl o0 Ab _ db (putL cs) rfl (HYB6.out.alloc _) HPN2.out (by omega) HB7.out.size ?_)
       intro v7 w7 hown7 hg7 _
       rw [Nat.zero_add, List.nil_append] at hown7
       have HO7 := Lib.hid hown7
       have HB8 := Lib.hid (grownB HB7.out o0 hg7)
       clear hown7 hg7 o0)
    | (at_builtin
       (refine wpList_app_byt _ rfl (.tmp 56) (.tmp 58) rfl W6.heap.size _ (3 + 4 * cn) (putL cs) rfl (HO7.out.kept (World.grownBy_alloc w7 _ none) (by generalize v7.ownBlock = q; cases q <;> simp)) (some ⟨w7.heap.size, 0, none⟩) 1 1 [more] rfl (byt_lit1 w7 more) rfl (by omega) ((HB8.out.alloc HB8.out.size _).size) ?_)
       intro v9 w9 hown9 hg9 _
       have HO9 := Lib.hid hown9
       have HG9 := Lib.hid hg9
       clear hown9 hg9))
  obtain ⟨A9, d9, rfl, hd9, hd92, hy9⟩ := byt_own' HO9.out (by rw [List.length_append, HPN2.out]; rfl)
  have hb9 := grownB (HB8.out.alloc HB8.out.size _) (HO7.out.kept (World.grownBy_alloc w7 _ none) (by generalize v7.ownBlock = q; cases q <;> simp)) HG9.out
  have HB9 := Lib.hid hb9
  have HY9 := Lib.hid hy9
  clear hb9 hy9
  have hl9 : (putL cs ++ [more]).length = 3 + 4 * cn + 1 := by rw [List.length_append, HPN2.out]; rfl
  have hab9 : AllB (putL cs ++ [more]) := fun y hy => by
    rcases List.mem_append.1 hy with h | h
    · exact allB_put HM.out y h
    · rw [List.mem_singleton.1 h]; exact ⟨h3, h4⟩
  have HC9 := Lib.hid (take_no A9 (putL cs ++ [more]) (3 + 4 * cn + 1) d9 w9 hl9 (by omega) hd9 hd92 hab9 HY9.out (tkE_more HM.out more))
  clear hl9 hab9
  with_reducible refine HC9.out.mono ?_
  rintro e W8 ⟨v8, rfl, hb10⟩
  have HB10 := Lib.hid (keepB HB9.out hb10)
  clear hb10
  go_wp2_with fail
  have HX8 := Lib.hid (HCX6.out.keep HB10.out)
  have HC8 := Lib.hid (HCF6.out.keep HB10.out)
  have FS := Lib.hid (same_any Ax Ac cs cs dx dc W8 (by rw [HCN.out]; omega) (by rw [HCN.out]; omega) HX8.out HC8.out)
  have hfs := FS.out
  rw [HCN.out, decide_eq_true rfl] at hfs
  refine hfs.mono ?_
  rintro e W9 ⟨rfl, q, rfl⟩
  go_wp2_with fail
  go_ret
  exact ⟨rfl, (keepB HB6.out HB10.out).trans ⟨rfl, rfl, rfl, Nat.le_refl _, fun _ _ => rfl⟩⟩
end Go.Proofs.Ytlmbkfdpgmmacaa
