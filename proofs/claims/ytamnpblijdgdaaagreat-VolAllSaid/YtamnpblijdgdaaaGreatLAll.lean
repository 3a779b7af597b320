/- VolAll answers true for every input, and leaves its arguments alone. No condition. -/
import Derived.Test.YtamnpblijdgdaaaGreatRows
import Derived.WalkKit
import Derived.ProofKit
import Derived.OpenShut
import Derived.Test.YtamnpblijdgdaaaGreatV39
namespace Go.Proofs.YtamnpblijdgdaaaGreat.volAll
open Go.ChangeShapes Go.WideShapes Go.ChangeAt Go.RowKit Go.Joins
set_option linter.unusedVariables false
theorem own:ownKnob Tryz.prog.godebug=none:=by kernel_rfl
theorem laidOut:laidOutB Tryz.prog=true:=by kernel_rfl
theorem kind10 (k:Int):∃ t:Int,Int.tmod k 10=t ∧ -10<t∧t<10:=⟨_,rfl,Int.lt_tmod_of_pos k (show (0:Int)<10 by omega),Int.tmod_lt_of_pos k (show (0:Int)<10 by omega)⟩
theorem kind10b {t:Int} (h1 : -10<t) (h2:t<10):∃ u:Int,Int.tmod (t+10) 10=u∧0≤u∧u≤9:=⟨_,rfl,by rw [Int.tmod_eq_emod_of_nonneg (by omega)];omega,by rw [Int.tmod_eq_emod_of_nonneg (by omega)];omega⟩
def VA18 (hp rh N d k ln xc:Nat) (ad:Addr) (xA:Option Addr) (r:Int) (i:Nat) (v:Value) (w:World):Prop :=
 match i with
 | 0=>v=.pointer (some ⟨hp,0,none⟩)
 | 1 | 8=>v=.slice (some ad) N d
 | 2 | 9=>v=.int .i64 (k:Int)
 | 3 | 10=>v=.pointer (some (ad.add (k*3)))
 | 4 | 11=>v=.pointer (some ⟨(ad.add (k*3)).block,(ad.add (k*3)).off+1,none⟩)
 | 5 | 12=>v=.slice xA ln xc
 | 6 | 13=>v=.int .i64 r
 | 7=>v=.pointer (some ⟨rh,0,none⟩)
 | _=>True
def JA (w:World) (P:Nat→Prop) (q hp rb hd rh rr cap gs n G B0 B1:Nat) (m mv:DM) (v vv:VM) (Ls:Nat→Bool) (W:World):Prop :=
 ∃ rm cm,(cm≤if Ls 13 then B1 else B0)∧TT w W P q hp rb (if Ls 6 then mv else m) (if Ls 6 then vv else v) hd rh rr rm cap cm (if Ls 13 then mv else m) (if Ls 13 then vv else v)∧W.heap[gs]?=some (.cells (shC n G 3) 28 (0,0))
section
variable {w W W':World} {P:Nat→Prop} {q hp rb hd rh rr cap gs n G B0 B1:Nat} {m mv:DM} {v vv:VM} {Ls:Nat→Bool}
theorem JA.bel (h:JA w P q hp rb hd rh rr cap gs n G B0 B1 m mv v vv Ls W):Below w.heap.size w W:=by
 obtain ⟨rm,cm,_,h1,_⟩:=h
 exact h1.bel
theorem JA.add (h:JA w P q hp rb hd rh rr cap gs n G B0 B1 m mv v vv Ls W) (i:Nat) (ha:i≠6) (hb:i≠13):JA w P q hp rb hd rh rr cap gs n G B0 B1 m mv v vv (fun j=>decide (i=j)||Ls j) W:=by
 have e6:(fun j=>decide (i=j)||Ls j) 6=Ls 6:=by show (decide (i=6)||Ls 6)=Ls 6;rw [decide_eq_false ha];rfl
 have e13:(fun j=>decide (i=j)||Ls j) 13=Ls 13:=by show (decide (i=13)||Ls 13)=Ls 13;rw [decide_eq_false hb];rfl
 unfold JA at *
 rw [e6,e13];exact h
theorem JA.fst (h:JA w P q hp rb hd rh rr cap gs n G B0 B1 m mv v vv Ls W) (hn:Ls 6=false):∃ rm cm,(cm≤if Ls 13 then B1 else B0)∧TT w W P q hp rb m v hd rh rr rm cap cm (if Ls 13 then mv else m) (if Ls 13 then vv else v)∧W.heap[gs]?=some (.cells (shC n G 3) 28 (0,0)):=by
 unfold JA at h;rw [hn] at h;exact h
theorem JA.snd (h:JA w P q hp rb hd rh rr cap gs n G B0 B1 m mv v vv Ls W) (hn:Ls 13=false):∃ rm cm,cm≤B0∧TT w W P q hp rb (if Ls 6 then mv else m) (if Ls 6 then vv else v) hd rh rr rm cap cm m v∧W.heap[gs]?=some (.cells (shC n G 3) 28 (0,0)):=by
 unfold JA at h;rw [hn] at h;exact h
theorem JA.did1 {rm cm:Nat} (hcm:cm≤if Ls 13 then B1 else B0) (h:TT w W' P q hp rb mv vv hd rh rr rm cap cm (if Ls 13 then mv else m) (if Ls 13 then vv else v)) (hs:W'.heap[gs]?=some (.cells (shC n G 3) 28 (0,0))):JA w P q hp rb hd rh rr cap gs n G B0 B1 m mv v vv (fun j=>decide (6=j)||Ls j) W':=by
 unfold JA;exact ⟨rm,cm,hcm,h,hs⟩
theorem JA.did2 {rm cm:Nat} (hcm:cm≤B1) (h:TT w W' P q hp rb (if Ls 6 then mv else m) (if Ls 6 then vv else v) hd rh rr rm cap cm mv vv) (hs:W'.heap[gs]?=some (.cells (shC n G 3) 28 (0,0))):JA w P q hp rb hd rh rr cap gs n G B0 B1 m mv v vv (fun j=>decide (13=j)||Ls j) W':=by
 unfold JA;exact ⟨rm,cm,hcm,h,hs⟩
theorem JA.start {rm cm:Nat} (h:TT w W P q hp rb m v hd rh rr rm cap cm m v) (hs:W.heap[gs]?=some (.cells (shC n G 3) 28 (0,0))) (hcm:cm≤B0):JA w P q hp rb hd rh rr cap gs n G B0 B1 m mv v vv (fun _=>false) W.drew:=⟨rm,cm,hcm,h.below (Below.refl _ _).drew,hs⟩
theorem JA.both (h:JA w P q hp rb hd rh rr cap gs n G B0 B1 m mv v vv Ls W) (ha:Ls 6=true) (hb:Ls 13=true):∃ rm cm,cm≤B1∧TT w W P q hp rb mv vv hd rh rr rm cap cm mv vv∧W.heap[gs]?=some (.cells (shC n G 3) 28 (0,0)):=by
 unfold JA at h;rw [ha,hb] at h;exact h
end
def VA35 (hp rh rr n cap:Nat) (E R:Nat) (i:Nat) (v:Value) (w:World):Prop :=
 match i with
 | 0 | 8 | 15=>v=.pointer (some ⟨hp,0,none⟩)
 | 2 | 3 | 10 | 16 | 17=>v=.pointer (some ⟨rh,0,none⟩)
 | 1 | 5=>v=.int .u32 E
 | 4=>v=.pointer (some ⟨rh,8,none⟩)
 | 6 | 7 | 12 | 13 | 14 | 21=>v=.bool false
 | 9 | 11=>v=.int .i64 R
 | 18=>v=.pointer (some ⟨rh,11,none⟩)
 | 19=>v=.slice (some ⟨rr,0,none⟩) n cap
 | 20=>v=.bool true
 | _=>True
set_option maxRecDepth 100000
set_option maxHeartbeats 6400000 in
theorem walk (x0:Int) (x1:Int) (A2:Option Addr) (l2:List Wd) (d2:Nat) (w:World) (hx0:0≤x0∧x0≤255) (hx1:0≤x1∧x1≤255) (hd2:l2.length≤d2) (hm2:d2≤9223372036854775807) (hB2:WdsOk l2) (hy2:Wds w A2 l2) :
 Calls Tryz.prog 3 #[.int .u8 x0,.int .u8 x1,.slice A2 l2.length d2] w fun e w'=>e=.returned (.bool true)∧Below w.heap.size w w':=by
 have HY:=Lib.hid hy2
 have HBK:=Lib.hid hB2
 obtain ⟨a,rfl⟩:∃ a:Nat,x0=(a:Int):=⟨x0.toNat,by omega⟩
 obtain ⟨b,rfl⟩:∃ b:Nat,x1=(b:Int):=⟨x1.toNat,by omega⟩
 have ha:a≤255∧b≤255:=by omega
 obtain ⟨N,hN⟩:∃ N,l2.length=N:=⟨_,rfl⟩
 rw [hN] at hd2 ⊢
 have HN:=Lib.hid hN
 clear hy2 hB2 hN hx0 hx1
 go_enter Tryz.func3,Tryz.ntmps3
 go_wp2_with fail
 refine (begun9_any w).mono ?_
 rintro e w0 ⟨rfl,hb0⟩
 have HB0:=Lib.hid hb0
 clear hb0
 go_wp2_with fail
 refine (light_any A2 l2 N d2 w0 HN.out hd2 hm2 HBK.out (HY.out.keep HB0.out)).mono ?_
 rintro e w' ⟨rfl,rfl⟩
 cases hli:lightK l2
 ·go_wp2
  go_ret
  exact ⟨rfl,HB0.out⟩
 have HLI:=Lib.hid ((lightK_iff l2).1 hli)
 have hN30:N≤30:=by have:=HLI.out.1;have:=HN.out;omega
 clear hli
 go_wp2_with fail
 refine (share_any a b (by omega) (by omega) w0).mono ?_
 rintro e w1 ⟨rfl,hb1⟩
 have HB1:=Lib.hid (HB0.out.trans (hb1.mono HB0.out.size))
 clear hb1 HB0
 obtain ⟨G,hG⟩:∃ G,16+b%30=G:=⟨_,rfl⟩
 obtain ⟨n,hn⟩:∃ n,4+a%30=n:=⟨_,rfl⟩
 have hG1:16≤G∧G≤45∧4≤n∧n≤33:=by omega
 rw [hG,hn]
 have HOP:=Lib.hid (op3 (n:=n) (g:=G) (by omega) (by omega) (by omega))
 clear hG hn
 go_upto_region 6 with (refine wpList_storeS rfl (.tmp 7) (.tmp 26) rfl w1.heap.size rfl n G 3 rfl _ rfl (heap_alloc_new w1 _) ?_)
 have e2:=setRow_blk (D:=shC n G 3) (heap_alloc_new w1 (Obj.cells #[.int .i64 0,.int .i64 0,.int .i64 0,.int .i64 0,.int .i64 0] 28))
 have hb2:Below w1.heap.size w1 ((w1.alloc (Obj.cells #[.int .i64 0,.int .i64 0,.int .i64 0,.int .i64 0,.int .i64 0] 28)).setRow w1.heap.size (shC n G 3)):=below_setRow ((Below.refl _ _).alloc (Nat.le_refl _) _) (Nat.le_refl _) _
 have HB2:=Lib.hid (HB1.out.trans (hb2.mono HB1.out.size))
 obtain ⟨g9,hg9⟩:∃ g9,g9=w1.heap.size:=⟨_,rfl⟩
 rw [← hg9] at e2 hb2 HB2 ⊢
 clear hb2 HB1 hg9
 generalize (w1.alloc (Obj.cells #[.int .i64 0,.int .i64 0,.int .i64 0,.int .i64 0,.int .i64 0] 28)).setRow g9 (shC n G 3)=w2 at *
 simp only [Act.put]
 have HE2:=Lib.hid e2
 clear e2
 go_wp2_with (refine wpList_loadS rfl (.tmp 7) rfl g9 rfl n G 3 HE2.out ?_)
 refine (size_any 0 0 n G 3 (by omega) (by omega) w2).mono ?_
 rintro e w3 ⟨rfl,hb3⟩
 have HE3:=Lib.hid (kb hb3 HE2.out)
 have HB3:=Lib.hid (HB2.out.trans (hb3.mono HB2.out.size))
 clear hb3 HE2 HB2
 obtain ⟨ZI,hZI⟩:∃ ZI:Int,ZI=((2+G+n:Nat):Int):=⟨_,rfl⟩
 have HZI:=Lib.hid hZI
 rw [← hZI]
 clear hZI
 go_wp2_with fail
 have hn3:(w3.alloc (Obj.cells #[.int .i64 ZI,.int .i64 3] 3)).heap[w3.heap.size]?=some (.cells (((zs3 n G).map (Value.int .i64)).toArray) 3 (0,0)):=by unfold zs3;rw [← HZI.out];exact heap_alloc_new w3 _
 refine (new_at _ w3.heap.size (zs3 n G) 2 rfl HOP.out.may HOP.out.ai _ hn3).mono ?_
 rintro e w4 ⟨⟨q,F,rfl,hd,hF⟩,hb4⟩
 have hba:=HB3.out.alloc HB3.out.size (Obj.cells #[.int .i64 ZI,.int .i64 3] 3)
 have hgl:g9<(w3.alloc (Obj.cells #[.int .i64 ZI,.int .i64 3] 3)).heap.size:=by
  have h1:=room_lt HE3.out
  have h2:=((Below.refl w3.heap.size w3).alloc (Nat.le_refl _) (Obj.cells #[.int .i64 ZI,.int .i64 3] 3)).size
  omega
 have HE4:=Lib.hid (kb hb4 (kb ((Below.refl w3.heap.size w3).alloc (Nat.le_refl _) (Obj.cells #[.int .i64 ZI,.int .i64 3] 3)) HE3.out))
 have HGL:=Lib.hid hgl
 have HBA:=Lib.hid hba
 have HD4:=Lib.hid (And.intro hd (And.intro hF hb4))
 clear hd hF hb4 hba hgl HE3 HB3 hn3
 generalize w3.alloc (Obj.cells #[.int .i64 ZI,.int .i64 3] 3)=wA at *
 go_wp2_with (refine wpList_loadS rfl (.tmp 7) rfl g9 rfl n G 3 HE4.out ?_)
 refine (sizeOf_any 0 0 n G 3 (by omega) (by omega) w4).mono ?_
 rintro e w5 ⟨rfl,hb5⟩
 have HE5:=Lib.hid (kb hb5 HE4.out)
 have HB5:=Lib.hid hb5
 clear hb5 HE4
 rw [← HZI.out]
 go_wp2_with fail
 have hny:Nts (w5.alloc (Obj.cells #[.int .i64 ZI,.int .i64 3] 3)) (some ⟨w5.heap.size,0,none⟩) (zs3 n G):=by
  intro i x hx
  refine ⟨_,rfl,?_⟩
  rw [add_at,blk_cell (heap_alloc_new w5 _)]
  unfold zs3 at hx
  rw [← HZI.out] at hx
  match i,hx with
  | 0,hx=>injection hx with hx;rw [← hx];rfl
  | 1,hx=>injection hx with hx;rw [← hx];rfl
 refine (newdev_any (some ⟨w5.heap.size,0,none⟩) (zs3 n G) 2 _ HOP.out.ai hny (by show 2≤1000000;omega)).mono ?_
 rintro e w6 ⟨hne,hb6⟩
 unfold NewE at hne
 rw [if_pos HOP.out.may] at hne
 obtain ⟨hh,FR,rfl,hr6,hF6⟩:=hne
 have hbc:Below w5.heap.size w5 (w5.alloc (Obj.cells #[.int .i64 ZI,.int .i64 3] 3)):=(Below.refl _ _).alloc (Nat.le_refl _) _
 have hbw:Below wA.heap.size wA (w5.alloc (Obj.cells #[.int .i64 ZI,.int .i64 3] 3)):=keepB (keepB HD4.out.2.2 HB5.out) hbc
 have HT6:Hid (TD w w6 (fun k=>k<wA.heap.size) q (dv3 n G) hh (dv3 n G)):=TD.made HBA.out ((HD4.out.1.below HB5.out).below hbc) HD4.out.2.1 hbw hr6 hF6 hb6 HOP.out.may
 have HE6:=Lib.hid (kb hb6 (kb hbc HE5.out))
 have HPG:Hid ((fun k=>k<wA.heap.size) g9∧∀ k,k<w.heap.size→(fun k=>k<wA.heap.size) k):=⟨HGL.out,fun k hk=>Nat.lt_of_lt_of_le hk HBA.out.size⟩
 clear hny hr6 hF6 hb6 hbc hbw HE5 HB5 HD4 HBA HGL
 generalize hPP:(fun k=>k<wA.heap.size)=P at *
 clear hPP HZI
 obtain ⟨row0,hrow0,hrl0⟩:=HOP.out.now0
 have HRW:=Lib.hid (And.intro hrow0 hrl0)
 have hdn0:=HOP.out.dn0
 clear hrow0 hrl0
 go_wp2_with (refine wpList_loadSw rfl (.tmp 7) rfl g9 rfl n G 3 HE6.out ?_)
 refine (HT6.out.makeP ((0:Nat):Int) (by constructor <;> omega) n G 3 (by omega) (by omega) HOP.out.yes0 (by omega)).mono ?_
 rintro e w7 ⟨rfl,ht7,hs7⟩
 have HT7:=Lib.hid ht7
 have HE7:=Lib.hid ((hs7.blk g9 HPG.out.1).trans HE6.out)
 clear ht7 hs7 HT6 HE6
 go_wp2_with (refine wpList_loadSw rfl (.tmp 7) rfl g9 rfl n G 3 HE7.out ?_)
 refine (HT7.out.makeR 0 (by omega) HRW.out.1 n G 3 (by omega) (by omega) HRW.out.2 (by omega)).mono ?_
 rintro e w8 ⟨rfl,ht8,hs8⟩
 have HT8:=Lib.hid ht8
 have HE8:=Lib.hid ((hs8.blk g9 HPG.out.1).trans HE7.out)
 clear ht8 hs8 HT7 HE7 HRW hdn0
 go_wp2_with (refine wpList_loadSw rfl (.tmp 7) rfl g9 rfl n G 3 HE8.out ?_)
 refine (HT8.out.makeNo 1 (by constructor <;> omega) n G 3 (by omega) (by omega) HOP.out.no1).mono ?_
 rintro e w9 ⟨rfl,hb9⟩
 have HT9:=Lib.hid (HT8.out.below hb9 (P':=P) fun k hk=>Or.inl hk)
 have HE9:=Lib.hid (kb hb9 HE8.out)
 obtain ⟨m3,v3,hmn⟩:=HOP.out.mst.mount (by omega) (by omega) (by omega) (by omega)
 have HMN:=Lib.hid hmn
 clear hb9 HT8 HE8 hmn HOP
 generalize makeM (dv3 n G) ((0:Nat):Int) n G=m1 at *
 go_wp2_with (refine wpList_loadS rfl (.tmp 7) rfl g9 rfl n G 3 HE9.out ?_)
 refine (HMN.out.prog w w9 P q hh m1 HT9.out).mono ?_
 rintro en w10 ⟨hp,rb,rfl,ht10,ha10,hs10,hPn,hnb,hlo⟩
 have HT10:=Lib.hid ht10
 have HA10:=Lib.hid (And.intro ha10 (And.intro hPn (And.intro hnb hlo)))
 have HE10:=Lib.hid ((hs10.blk g9 HPG.out.1).trans HE9.out)
 clear ht10 ha10 hs10 hPn hnb hlo HT9 HE9
 go_wp2_with (refine wpList_loadS rfl (.tmp 7) rfl g9 rfl n G 3 HE10.out ?_)
 refine (HMN.out.ref w w10 P q hp rb hh m3 v3 HT10.out HA10.out.1 HA10.out.2.1 HA10.out.2.2.1 HA10.out.2.2.2).mono ?_
 rintro en w11 ⟨rh,rr,rm,cap,rfl,ht11,hs11⟩
 have HT11:=Lib.hid ht11
 have HE11:=Lib.hid ((hs11.blk g9 HPG.out.1).trans HE10.out)
 have HPS:=Lib.hid HMN.out.pst
 clear ht11 hs11 HT10 HA10 HE10 HMN
 go_wp2_with fail
 go_loopw [12,14,16] (fun v r i wr=>∃ (k hp rb rh rr rm cap cm:Nat) (m:DM) (vm:VM),v=.pointer (some ⟨hp,0,none⟩)∧r=.pointer (some ⟨rh,0,none⟩)∧i=.int .i64 k∧k≤N∧cm≤14*k∧Hid (TT w wr P q hp rb m vm hh rh rr rm cap cm m vm)∧Hid (Pst m vm n G (1+k))∧Hid (wr.heap[g9]?=some (.cells (shC n G 3) 28 (0,0)))) (fun _ _ i _=>N-(intOf i).toNat)
 case atStart=>exact ⟨0,hp,rb,rh,rr,rm,cap,0,m3,v3,rfl,rfl,rfl,by omega,by omega,HT11.out,HPS.out,HE11.out⟩
 case round =>
  clear HT11 HPS HE11
  obtain ⟨k,hp,rb,rh,rr,rm,cap,cm,m,v,rfl,rfl,rfl,hk,hcm,HTT,HPS,HSH⟩:=hrel
  obtain ⟨W,rfl⟩:∃ W,W=wr:=⟨wr,rfl⟩
  by_cases hkn:k<N
  ·obtain ⟨x,hx⟩:∃ x,l2[k]?=some x:=⟨_,List.getElem?_eq_getElem (by rw [HN.out];exact hkn)⟩
   have hxo:=HBK.out x (List.mem_of_getElem? hx)
   obtain ⟨ad0,hA0,hw0⟩:=HY.out k x hx
   subst hA0
   have hkeep:∀ W',Below w.heap.size w W'→WdAt W' (ad0.add (k*3)) x:=fun W' hb=>by
    obtain ⟨ad1,hA1,hw1⟩:=(HY.out.keep hb) k x hx
    injection hA1 with hA1
    subst hA1
    exact hw1
   have HKP:=Lib.hid hkeep
   have HXO:=Lib.hid hxo
   have HLL:Hid (x.l.length≤14):=(HLI.out.2 x (List.mem_of_getElem? hx)).1
   have HW0:=Lib.hid hw0
   have hki:(k:Int)<N:=by omega
   obtain ⟨t,ht,ht1,ht2⟩:=kind10 x.k
   obtain ⟨u,hu,hu0,hu9⟩:=kind10b ht1 ht2
   have hwt:IntKind.i64.wrap t=t:=IntWalk.i64_in _ (by omega)
   have hwt2:IntKind.i64.wrap (t+10)=t+10:=IntWalk.i64_in _ (by omega)
   have hwu:IntKind.i64.wrap u=u:=IntWalk.i64_in _ (by omega)
   have k0:=(hkeep W HTT.out.bel).c0
   have HF:=Lib.hid (HPS.out.facts (by omega))
   clear hkeep hxo hx hw0
   go_upto_block 2 with fail
   go_cut [12,14] (fun v' r' wx=>∃ (hp rb rh rr rm cap cm:Nat) (m:DM) (vm:VM),v'=.pointer (some ⟨hp,0,none⟩)∧r'=.pointer (some ⟨rh,0,none⟩)∧cm≤14*(k+1)∧Hid (TT w wx P q hp rb m vm hh rh rr rm cap cm m vm)∧Hid (Pst m vm n G (1+(k+1)))∧Hid (wx.heap[g9]?=some (.cells (shC n G 3) 28 (0,0))))
   case first =>
    by_cases h6:u=6
    ·subst h6
     clear hu0 hu9
     have HS:=Lib.hid (HTT.out.syncP (by have:=HF.out.dn;omega))
     go_wp2_with fail
     refine HS.out.mono ?_
     rintro e W2 ⟨rfl,ht',hs'⟩
     have HT2:=Lib.hid ht'
     have HS2:=Lib.hid (HT2.out.syncR (by have:=HF.out.dn;omega))
     have HE2:=Lib.hid ((hs'.blk g9 HPG.out.1).trans HSH.out)
     clear ht' hs' HS HTT HSH k0
     go_wp2_with fail
     refine HS2.out.mono ?_
     rintro e W3 ⟨rfl,ht',hs'⟩
     have HT3:=Lib.hid ht'
     have HE3:=Lib.hid ((hs'.blk g9 HPG.out.1).trans HE2.out)
     have HP3:=Lib.hid HPS.out.sync
     clear ht' hs' HT2 HS2 HE2 HPS
     go_wp2_with fail
     go_meet
     case rel=>exact ⟨hp,rb,rh,rr,rm,cap,cm,_,v,rfl,rfl,by omega,HT3.out,HP3.out,HE3.out⟩
    ·by_cases h7:u=7
     ·subst h7
      clear hu0 hu9 h6
      have HS:=Lib.hid (HTT.out.tidyP HF.out.ep (by have:=HF.out.dn;omega))
      go_wp2_with fail
      refine HS.out.mono ?_
      rintro e W2 ⟨rfl,ht',hs'⟩
      have HT2:=Lib.hid ht'
      have HS2:=Lib.hid (HT2.out.tidyR HF.out.ep (by have:=HF.out.dn;omega))
      have HE2:=Lib.hid ((hs'.blk g9 HPG.out.1).trans HSH.out)
      clear ht' hs' HS HTT HSH k0
      go_wp2_with fail
      refine HS2.out.mono ?_
      rintro e W3 ⟨rfl,rm',ht',hs'⟩
      have HT3:=Lib.hid ht'
      have HE3:=Lib.hid ((hs'.blk g9 HPG.out.1).trans HE2.out)
      have HP3:=Lib.hid (HPS.out.tidy (by omega) (by omega))
      clear ht' hs' HT2 HS2 HE2 HPS
      go_wp2_with fail
      go_meet
      case rel=>exact ⟨hp,rb,rh,rr,rm',cap,0,_,_,rfl,rfl,by omega,HT3.out,HP3.out,HE3.out⟩
     ·by_cases h89:u=8∨u=9
      ·have i6:(u==6)=false:=by simp;exact h6
       have i7:(u==7)=false:=by simp;exact h7
       have HTD0:=Lib.hid HTT.out.drop
       rcases h89 with h89 | h89 <;> subst h89
       all_goals
        clear hu0 hu9 h6 h7 i6 i7
        go_upto_if 136 with fail
        go_cut [] (fun wx=>∃ (m':DM),Hid (TD w wx P q m' hh m')∧Hid (Mst m' n G (1+k))∧Hid (wx.heap[g9]?=some (.cells (shC n G 3) 28 (0,0))))
        case first =>
         by_cases h9:t=9
         ·have i9:(t==9)=true:=by simp;exact h9
          have c2:=(HKP.out W HTT.out.bel).c2
          have hba:∀ (W':World) (o:Obj),Below W'.heap.size W' (W'.alloc o):=fun W' o=>(Below.refl _ _).alloc (Nat.le_refl _) _
          have HBA:=Lib.hid hba
          have HM1:=Lib.hid (HPS.out.crash x.ks)
          have HDN:Hid (m.done.length≤90000):=HF.out.dn
          obtain ⟨kl,hkl⟩:∃ kl,kl=x.ks.length:=⟨_,rfl⟩
          have HKL:=Lib.hid hkl
          rw [← hkl] at c2
          clear hba hkl
          go_wp2_with fail
          have htd:TD w (W.alloc (.cells #[.slice x.K kl x.kc] 48)) (fun k=>P k∨k=W.heap.size) q m hh m:=HTD0.out.below (HBA.out W _) fun k hk=>by
           rcases hk with hk | rfl
           ·exact Or.inl hk
           ·exact Or.inr ⟨Nat.le_refl _,by simp⟩
          have hgk:(W.alloc (.cells #[.slice x.K kl x.kc] 48)).heap[W.heap.size]?=some (.cells #[.slice x.K x.ks.length x.kc] 48 (0,0)):=by rw [← HKL.out];exact heap_alloc_new W _
          refine (htd.crashP HW0.out.by_ HXO.out.kb HXO.out.kl HXO.out.km hgk (Or.inr rfl) (by have:=HDN.out;omega)).mono ?_
          rintro e W2 ⟨rfl,ht2,hs2⟩
          have HT2:Hid (TD w W2 P q (m.crash [x.ks]) hh m):=ht2.mono fun k hk=>Or.inl hk
          have HE2:Hid (W2.heap[g9]?=_):=(hs2.blk g9 (Or.inl HPG.out.1)).trans (kb (HBA.out W _) HSH.out)
          have c2:=(HKP.out W2 ht2.bel).c2
          rw [← HKL.out] at c2
          clear htd hgk ht2 hs2 HTT HSH k0
          go_wp2_with fail
          have htd:TD w (W2.alloc (.cells #[.slice x.K kl x.kc] 48)) (fun k=>P k∨k=W2.heap.size) q (m.crash [x.ks]) hh m:=HT2.out.below (HBA.out W2 _) fun k hk=>by
           rcases hk with hk | rfl
           ·exact Or.inl hk
           ·exact Or.inr ⟨Nat.le_refl _,by simp⟩
          have hgk:(W2.alloc (.cells #[.slice x.K kl x.kc] 48)).heap[W2.heap.size]?=some (.cells #[.slice x.K x.ks.length x.kc] 48 (0,0)):=by rw [← HKL.out];exact heap_alloc_new W2 _
          refine (htd.crashR HW0.out.by_ HXO.out.kb HXO.out.kl HXO.out.km hgk (Or.inr rfl) (by have:=HDN.out;omega)).mono ?_
          rintro e W3 ⟨rfl,ht3,hs3⟩
          have HT3:Hid (TD w W3 P q (m.crash [x.ks]) hh (m.crash [x.ks])):=ht3.mono fun k hk=>Or.inl hk
          have HE3:Hid (W3.heap[g9]?=_):=(hs3.blk g9 (Or.inl HPG.out.1)).trans (kb (HBA.out W2 _) HE2.out)
          clear htd hgk ht3 hs3 HT2 HE2 c2
          go_wp2_with fail
          go_meet
          case rel=>exact ⟨_,HT3.out,HM1.out,HE3.out⟩
         ·have i9:(t==9)=false:=by simp;exact h9
          go_wp2_with fail
          go_meet
          case rel=>exact ⟨m,HTD0.out,HPS.out.mst,HSH.out⟩
        case rest =>
         obtain ⟨mc,HTD,HMS,HE4⟩:=hcut
         clear HTT HPS HSH HF HTD0
         obtain ⟨m3,v3,hmn⟩:=HMS.out.mount (by omega) (by omega) (by omega) (by omega)
         have HMN:=Lib.hid hmn
         clear hmn k0
         go_wp2_with (refine wpList_loadS rfl (.tmp 7) rfl g9 rfl n G 3 HE4.out ?_)
         refine (HMN.out.prog w _ P q hh mc HTD.out).mono ?_
         rintro en w10 ⟨hp,rb,rfl,ht10,ha10,hs10,hPn,hnb,hlo⟩
         have HT10:=Lib.hid ht10
         have HA10:=Lib.hid (And.intro ha10 (And.intro hPn (And.intro hnb hlo)))
         have HE10:=Lib.hid ((hs10.blk g9 HPG.out.1).trans HE4.out)
         clear ht10 ha10 hs10 hPn hnb hlo HTD HE4
         go_wp2_with (refine wpList_loadS rfl (.tmp 7) rfl g9 rfl n G 3 HE10.out ?_)
         refine (HMN.out.ref w w10 P q hp rb hh m3 v3 HT10.out HA10.out.1 HA10.out.2.1 HA10.out.2.2.1 HA10.out.2.2.2).mono ?_
         rintro en w11 ⟨rh,rr,rm,cap,rfl,ht11,hs11⟩
         have HT11:=Lib.hid ht11
         have HE11:=Lib.hid ((hs11.blk g9 HPG.out.1).trans HE10.out)
         have HPS:Hid (Pst m3 v3 n G (1+(k+1))):=HMN.out.pst.mono (by omega)
         clear ht11 hs11 HT10 HA10 HE10 HMN
         go_wp2_with fail
         go_meet
         case rel=>exact ⟨hp,rb,rh,rr,rm,cap,0,m3,v3,rfl,rfl,by omega,HT11.out,HPS.out,HE11.out⟩
      ·have i6:(u==6)=false:=by simp;exact h6
       have i7:(u==7)=false:=by simp;exact h7
       have i8:(u==8)=false:=by simp;omega
       have i9:(u==9)=false:=by simp;omega
       go_upto_region 18 with fail
       have HP3:=Lib.hid (HPS.out.change (by omega) (by omega) (by omega) HXO.out.ok)
       obtain ⟨ln,hln⟩:∃ ln,x.l.length=ln:=⟨_,rfl⟩
       have hln14:ln≤14:=by have:=HLL.out;omega
       obtain ⟨r,hr⟩:∃ r:Int,(if ChOk v x.l then (0:Int) else 1)=r:=⟨_,rfl⟩
       have hc1:∀ (WW:World) (rm0 cm0:Nat) (mX:DM) (vX:VM),TT w WW P q hp rb m v hh rh rr rm0 cap cm0 mX vX→Calls Tryz.prog 21 #[.pointer (some ⟨hp,0,none⟩),.slice x.A ln x.c] WW fun e w'=>e=.returned (.int .i64 r)∧TT w w' P q hp rb (chM m v x.l) (chV v x.l) hh rh rr rm0 cap cm0 mX vX∧Same P WW w':=fun WW rm0 cm0 mX vX h=>by
        have h9:=h.changeP HPG.out.2 HF.out (by omega) x.A x.l ln x.c hln (by rw [← hln];exact HXO.out.lc) HXO.out.cm HXO.out.ok HW0.out.wr (HKP.out WW h.bel).wr
        rw [hr] at h9;exact h9
       have hc3:∀ (WW:World) (rm0 cm0:Nat) (mX:DM) (vX:VM),cm0≤cm→TT w WW P q hp rb mX vX hh rh rr rm0 cap cm0 m v→Calls Tryz.prog 22 #[.pointer (some ⟨rh,0,none⟩),.slice x.A ln x.c] WW fun e w'=>e=.returned (.int .i64 r)∧∃ rm' cm',cm'≤cm+ln∧TT w w' P q hp rb mX vX hh rh rr rm' cap cm' (chM m v x.l) (chV v x.l)∧Same P WW w':=fun WW rm0 cm0 mX vX hcc h=>by
        have h9:=h.changeR HPG.out.2 HF.out (by omega) x.A x.l ln x.c hln (by rw [← hln];exact HXO.out.lc) HXO.out.cm HXO.out.ok HW0.out.wr (HKP.out WW h.bel).wr (by omega)
        rw [hr] at h9
        refine h9.mono ?_
        rintro e w' ⟨he,rm',cm',h1,h2⟩
        exact ⟨he,rm',cm',by omega,h2⟩
       have HC1:=Lib.hid hc1
       have HC3:=Lib.hid hc3
       have HCL:Hid (∀ WW,Below w.heap.size w WW→WW.cell? ⟨(ad0.add (k*3)).block,(ad0.add (k*3)).off+1,none⟩=some (.slice x.A ln x.c)):=fun WW hb=>by have:=(HKP.out WW hb).c1;rw [hln] at this;exact this
       have HJ0:Hid (JA w P q hp rb hh rh rr cap g9 n G cm (cm+ln) m (chM m v x.l) v (chV v x.l) (fun _=>false) W.drew):=JA.start HTT.out HSH.out (Nat.le_refl _)
       clear hc1 hc3 hr hln HTT HSH HPS k0 HF HW0 HXO HLL HKP
       generalize x.A=xA at *
       generalize x.c=xc at *
       generalize chM m v x.l=mv at *
       generalize chV v x.l=vv at *
       refine wp_region_rgj (VA18 hp rh N d2 k ln xc ad0 xA r) (JA w P q hp rb hh rh rr cap g9 n G cm (cm+ln) m mv v vv) (fun _ _ _=>True) (by kernel_rfl) (by kernel_rfl) (fun i j v w w' _ h _=>h) HJ0.out ?_
       simp only [RAll]
       refine ⟨?_,?_,?_,?_,?_,?_,?_,?_,?_,?_,?_,?_,?_,?_,?_⟩
       ·refine RStepJ.of rfl fun T WW Ls hag hni hJ hdn hd=>?_
        have e12:T.getD 12 undef=_:=(agree_at hag 12 (by kernel_rfl)).trans rfl
        clear hag hd hdn
        go_simp
        exact ⟨_,rfl,rfl,hJ.add 0 (by decide) (by decide)⟩
       ·refine RStepJ.of rfl fun T WW Ls hag hni hJ hdn hd=>?_
        have e2:T.getD 2 undef=_:=(agree_at hag 2 (by kernel_rfl)).trans rfl
        clear hag hd hdn
        go_simp
        exact ⟨_,rfl,rfl,hJ.add 1 (by decide) (by decide)⟩
       ·refine RStepJ.of rfl fun T WW Ls hag hni hJ hdn hd=>?_
        have e16:T.getD 16 undef=_:=(agree_at hag 16 (by kernel_rfl)).trans rfl
        clear hag hd hdn
        go_simp
        exact ⟨_,rfl,rfl,hJ.add 2 (by decide) (by decide)⟩
       ·refine RStepJ.of rfl fun T WW Ls hag hni hJ hdn hd=>?_
        have d101:T.getD 101 undef=_:=hd ⟨1,.data⟩ (by simp) rfl _ rfl
        have d102:T.getD 102 undef=_:=hd ⟨2,.data⟩ (by simp) rfl _ rfl
        clear hag hd hdn
        go_simp
        exact ⟨_,rfl,rfl,hJ.add 3 (by decide) (by decide)⟩
       ·refine RStepJ.of rfl fun T WW Ls hag hni hJ hdn hd=>?_
        have d103:T.getD 103 undef=_:=hd ⟨3,.data⟩ (by simp) rfl _ rfl
        clear hag hd hdn
        go_simp
        exact ⟨_,rfl,rfl,hJ.add 4 (by decide) (by decide)⟩
       ·refine RStepJ.of rfl fun T WW Ls hag hni hJ hdn hd=>?_
        have d104:T.getD 104 undef=_:=hd ⟨4,.data⟩ (by simp) rfl _ rfl
        have c1:=HCL.out WW hJ.bel
        clear hag hd hdn
        go_simp
        exact ⟨_,rfl,rfl,hJ.add 5 (by decide) (by decide)⟩
       ·refine RStepJ.of rfl fun T WW Ls hag hni hJ hdn hd=>?_
        have d100:T.getD 100 undef=_:=hd ⟨0,.data⟩ (by simp) rfl _ rfl
        have d105:T.getD 105 undef=_:=hd ⟨5,.data⟩ (by simp) rfl _ rfl
        obtain ⟨rm0,cm0,hcm0,htt0,hsh0⟩:=hJ.fst hni
        have hc:=HC1.out WW _ _ _ _ htt0
        clear hag hd hdn
        go_simp
        refine hc.mono ?_
        rintro e w' ⟨rfl,h',hs'⟩
        exact ⟨_,rfl,rfl,JA.did1 hcm0 h' ((hs'.blk g9 HPG.out.1).trans hsh0)⟩
       ·refine RStepJ.of rfl fun T WW Ls hag hni hJ hdn hd=>?_
        have e14:T.getD 14 undef=_:=(agree_at hag 14 (by kernel_rfl)).trans rfl
        clear hag hd hdn
        go_simp
        exact ⟨_,rfl,rfl,hJ.add 7 (by decide) (by decide)⟩
       ·refine RStepJ.of rfl fun T WW Ls hag hni hJ hdn hd=>?_
        have e2:T.getD 2 undef=_:=(agree_at hag 2 (by kernel_rfl)).trans rfl
        clear hag hd hdn
        go_simp
        exact ⟨_,rfl,rfl,hJ.add 8 (by decide) (by decide)⟩
       ·refine RStepJ.of rfl fun T WW Ls hag hni hJ hdn hd=>?_
        have e16:T.getD 16 undef=_:=(agree_at hag 16 (by kernel_rfl)).trans rfl
        clear hag hd hdn
        go_simp
        exact ⟨_,rfl,rfl,hJ.add 9 (by decide) (by decide)⟩
       ·refine RStepJ.of rfl fun T WW Ls hag hni hJ hdn hd=>?_
        have d108:T.getD 108 undef=_:=hd ⟨8,.data⟩ (by simp) rfl _ rfl
        have d109:T.getD 109 undef=_:=hd ⟨9,.data⟩ (by simp) rfl _ rfl
        clear hag hd hdn
        go_simp
        exact ⟨_,rfl,rfl,hJ.add 10 (by decide) (by decide)⟩
       ·refine RStepJ.of rfl fun T WW Ls hag hni hJ hdn hd=>?_
        have d110:T.getD 110 undef=_:=hd ⟨10,.data⟩ (by simp) rfl _ rfl
        clear hag hd hdn
        go_simp
        exact ⟨_,rfl,rfl,hJ.add 11 (by decide) (by decide)⟩
       ·refine RStepJ.of rfl fun T WW Ls hag hni hJ hdn hd=>?_
        have d111:T.getD 111 undef=_:=hd ⟨11,.data⟩ (by simp) rfl _ rfl
        have c1:=HCL.out WW hJ.bel
        clear hag hd hdn
        go_simp
        exact ⟨_,rfl,rfl,hJ.add 12 (by decide) (by decide)⟩
       ·refine RStepJ.of rfl fun T WW Ls hag hni hJ hdn hd=>?_
        have d107:T.getD 107 undef=_:=hd ⟨7,.data⟩ (by simp) rfl _ rfl
        have d112:T.getD 112 undef=_:=hd ⟨12,.data⟩ (by simp) rfl _ rfl
        obtain ⟨rm0,cm0,hcm0,htt0,hsh0⟩:=hJ.snd hni
        have hc:=HC3.out WW _ _ _ _ hcm0 htt0
        clear hag hd hdn
        go_simp
        refine hc.mono ?_
        rintro e w' ⟨rfl,rm1,cm1,hcm1,h',hs'⟩
        exact ⟨_,rfl,rfl,JA.did2 hcm1 h' ((hs'.blk g9 HPG.out.1).trans hsh0)⟩
       ·refine RLastJ.of rfl fun T WW Ls hag hall hni hJ hd=>?_
        have d106:T.getD 106 undef=_:=hd 6 _ (by simp) rfl
        have d113:T.getD 113 undef=_:=hd 13 _ (by simp) rfl
        have hfin:=hJ.both (hall 6 (by decide)) (hall 13 (by decide))
        have HFIN:=Lib.hid hfin
        obtain ⟨f,hf,hT⟩:=agree_fn hag
        have d100:T.getD 100 undef=_:=hd 0 _ (by simp) rfl
        have h100:=(hf 100).trans d100
        have d101:T.getD 101 undef=_:=hd 1 _ (by simp) rfl
        have h101:=(hf 101).trans d101
        have d102:T.getD 102 undef=_:=hd 2 _ (by simp) rfl
        have h102:=(hf 102).trans d102
        have d103:T.getD 103 undef=_:=hd 3 _ (by simp) rfl
        have h103:=(hf 103).trans d103
        have d104:T.getD 104 undef=_:=hd 4 _ (by simp) rfl
        have h104:=(hf 104).trans d104
        have d105:T.getD 105 undef=_:=hd 5 _ (by simp) rfl
        have h105:=(hf 105).trans d105
        have h106:=(hf 106).trans d106
        have d107:T.getD 107 undef=_:=hd 7 _ (by simp) rfl
        have h107:=(hf 107).trans d107
        have d108:T.getD 108 undef=_:=hd 8 _ (by simp) rfl
        have h108:=(hf 108).trans d108
        have d109:T.getD 109 undef=_:=hd 9 _ (by simp) rfl
        have h109:=(hf 109).trans d109
        have d110:T.getD 110 undef=_:=hd 10 _ (by simp) rfl
        have h110:=(hf 110).trans d110
        have d111:T.getD 111 undef=_:=hd 11 _ (by simp) rfl
        have h111:=(hf 111).trans d111
        have d112:T.getD 112 undef=_:=hd 12 _ (by simp) rfl
        have h112:=(hf 112).trans d112
        have h113:=(hf 113).trans d113
        clear hag hd d100 d101 d102 d103 d104 d105 d106 d107 d108 d109 d110 d111 d112 d113 hf hJ hall hfin
        rw [hT]
        clear hT
        simp only [List.filterMap_cons,List.filterMap_nil,List.foldl_cons,List.foldl_nil,List.setIfInBounds_toArray,List.set_cons_succ,List.set_cons_zero,h100,h101,h102,h103,h104,h105,h106,h107,h108,h109,h110,h111,h112,h113]
        obtain ⟨rm9,cm9,hcm9,htt9,hsh9⟩:=HFIN.out
        have HT9:=Lib.hid htt9
        have HE9:=Lib.hid hsh9
        clear htt9 hsh9 HFIN HJ0 HC1 HC3
        go_wp2_with fail
        go_meet
        case rel=>exact ⟨hp,rb,rh,rr,rm9,cap,cm9,mv,vv,rfl,rfl,by omega,HT9.out,HP3.out,HE9.out⟩
   case rest =>
    obtain ⟨hp,rb,rh,rr,rm,cap,cm,m,v,rfl,rfl,hcm,HTT,HPS,HSH⟩:=hcut
    clear k0
    have HF:=Lib.hid (HPS.out.facts (by omega))
    obtain ⟨hcn,hc9⟩:=HTT.out.capn
    have hvn:=HF.out.vn
    rw [hvn] at hcn
    obtain ⟨E,hE⟩:∃ E,E=v.ep:=⟨_,rfl⟩
    obtain ⟨R,hR⟩:∃ R,R=v.g-v.us:=⟨_,rfl⟩
    have HEP:Hid (∀ W',Below wc.heap.size wc W'→Calls Tryz.prog 23 #[.pointer (some ⟨hp,0,none⟩)] W' fun e w'=>e=.returned (.int .u32 E)∧W'=w'):=fun W' hb=>by rw [hE];exact vepoch_any (HTT.out.below hb).at_
    have HRP:Hid (∀ W',Below wc.heap.size wc W'→Calls Tryz.prog 24 #[.pointer (some ⟨hp,0,none⟩)] W' fun e w'=>e=.returned (.int .i64 (R:Int))∧Below W'.heap.size W' w'):=fun W' hb=>by rw [hR];exact (HTT.out.below hb).roomP HF.out.us
    have HRR:Hid (∀ W',Below wc.heap.size wc W'→Calls Tryz.prog 25 #[.pointer (some ⟨rh,0,none⟩)] W' fun e w'=>e=.returned (.int .i64 (R:Int))∧Below W'.heap.size W' w'):=fun W' hb=>by rw [hR];exact (HTT.out.below hb).roomR HF.out.us
    have HBL:Hid (∀ W',Below wc.heap.size wc W'→Calls Tryz.prog 26 #[.pointer (some ⟨hp,0,none⟩),.slice (some ⟨rr,0,none⟩) n cap] W' fun e w'=>e=.returned (.bool true)∧Below W'.heap.size W' w'):=fun W' hb=>by
     have h1:=(HTT.out.below hb).blocks (by rw [hvn];exact hcn) hc9
     rw [hvn] at h1
     exact h1
    have HCC:Hid (∀ W',Below wc.heap.size wc W'→W'.cell? ⟨rh,8,none⟩=some (.int .u32 E)∧W'.cell? ⟨rh,11,none⟩=some (.slice (some ⟨rr,0,none⟩) n cap)):=fun W' hb=>by
     have h1:=(HTT.out.below hb).ra.cs
     rw [hE,← hvn]
     exact ⟨h1.2.2.2.2.2.2.2.2.1,h1.2.2.2.2.2.2.2.2.2.2.2.1⟩
    clear hE hR hvn HF
    go_upto_region 35 with fail
    refine wp_region_rgk (VA35 hp rh rr n cap E R) (fun _ W=>Below wc.heap.size wc W) (fun _ w w'=>Below w.heap.size w w') (by kernel_rfl) (by kernel_rfl) (fun i j v w w' _ _ h hs=>by unfold VA35 at *;exact h) ((Below.refl _ _).drew) ?_
    simp only [RAll]
    refine ⟨?_,?_,?_,?_,?_,?_,?_,?_,?_,?_,?_,?_,?_,?_,?_,?_,?_,?_,?_,?_,?_,?_,?_⟩
    ·refine RStepK.of rfl fun T W' L hag hL hJ hLs hd=>?_
     have e12:T.getD 12 undef=_:=(agree_at hag 12 (by kernel_rfl)).trans rfl
     clear hag hd
     go_simp
     first | exact ⟨_,rfl,rfl⟩ | exact ⟨_,rfl,rfl,brefl _⟩ | exact ⟨_,rfl,rfl,hJ,brefl _⟩
    ·refine RStepK.of rfl fun T W' L hag hL hJ hLs hd=>?_
     have d172:T.getD 172 undef=_:=hd ⟨0,.data⟩ (by simp) rfl _ rfl
     clear hag hd
     go_simp
     refine (HEP.out W' hJ).mono ?_
     rintro e w' ⟨rfl,rfl⟩
     exact ⟨_,rfl,rfl,hJ,brefl _⟩
    ·refine RStepK.of rfl fun T W' L hag hL hJ hLs hd=>?_
     have e14:T.getD 14 undef=_:=(agree_at hag 14 (by kernel_rfl)).trans rfl
     clear hag hd
     go_simp
     first | exact ⟨_,rfl,rfl⟩ | exact ⟨_,rfl,rfl,brefl _⟩ | exact ⟨_,rfl,rfl,hJ,brefl _⟩
    ·refine RStepK.of rfl fun T W' L hag hL hJ hLs hd=>?_
     have d174:T.getD 174 undef=_:=hd ⟨2,.data⟩ (by simp) rfl _ rfl
     clear hag hd
     go_simp
     first | exact ⟨_,rfl,rfl⟩ | exact ⟨_,rfl,rfl,brefl _⟩ | exact ⟨_,rfl,rfl,hJ,brefl _⟩
    ·refine RStepK.of rfl fun T W' L hag hL hJ hLs hd=>?_
     have d175:T.getD 175 undef=_:=hd ⟨3,.data⟩ (by simp) rfl _ rfl
     clear hag hd
     go_simp
     first | exact ⟨_,rfl,rfl⟩ | exact ⟨_,rfl,rfl,brefl _⟩ | exact ⟨_,rfl,rfl,hJ,brefl _⟩
    ·refine RStepK.of rfl fun T W' L hag hL hJ hLs hd=>?_
     have d176:T.getD 176 undef=_:=hd ⟨4,.data⟩ (by simp) rfl _ rfl
     obtain ⟨z8,z11⟩:=HCC.out W' hJ
     clear hag hd
     go_simp
     first | exact ⟨_,rfl,rfl⟩ | exact ⟨_,rfl,rfl,brefl _⟩ | exact ⟨_,rfl,rfl,hJ,brefl _⟩
    ·refine RStepK.of rfl fun T W' L hag hL hJ hLs hd=>?_
     have d173:T.getD 173 undef=_:=hd ⟨1,.data⟩ (by simp) rfl _ rfl
     have d177:T.getD 177 undef=_:=hd ⟨5,.data⟩ (by simp) rfl _ rfl
     clear hag hd
     go_simp
     first | exact ⟨_,rfl,rfl⟩ | exact ⟨_,rfl,rfl,brefl _⟩ | exact ⟨_,rfl,rfl,hJ,brefl _⟩
    ·refine RStepK.of rfl fun T W' L hag hL hJ hLs hd=>?_
     have d178:T.getD 178 undef=_:=hd ⟨6,.data⟩ (by simp) rfl _ rfl
     clear hag hd
     go_simp
     first | exact ⟨_,rfl,rfl⟩ | exact ⟨_,rfl,rfl,brefl _⟩ | exact ⟨_,rfl,rfl,hJ,brefl _⟩
    ·refine RStepK.want rfl rfl rfl (by kernel_rfl) (fun v w h=>h) fun T W' L hag hL hJ hLs hd=>?_
     have e12:T.getD 12 undef=_:=(agree_at hag 12 (by kernel_rfl)).trans rfl
     clear hag hd
     go_simp
     first | exact ⟨_,rfl,rfl⟩ | exact ⟨_,rfl,rfl,brefl _⟩ | exact ⟨_,rfl,rfl,hJ,brefl _⟩
    ·refine RStepK.want rfl rfl rfl (by kernel_rfl) (fun v w h=>h) fun T W' L hag hL hJ hLs hd=>?_
     have d180:T.getD 180 undef=_:=hd ⟨8,.data⟩ (by simp) rfl _ rfl
     clear hag hd
     go_simp
     refine (HRP.out W' hJ).mono ?_
     rintro e w' ⟨rfl,hb⟩
     exact ⟨_,rfl,rfl,keepB hJ hb,hb⟩
    ·refine RStepK.want rfl rfl rfl (by kernel_rfl) (fun v w h=>h) fun T W' L hag hL hJ hLs hd=>?_
     have e14:T.getD 14 undef=_:=(agree_at hag 14 (by kernel_rfl)).trans rfl
     clear hag hd
     go_simp
     first | exact ⟨_,rfl,rfl⟩ | exact ⟨_,rfl,rfl,brefl _⟩ | exact ⟨_,rfl,rfl,hJ,brefl _⟩
    ·refine RStepK.want rfl rfl rfl (by kernel_rfl) (fun v w h=>h) fun T W' L hag hL hJ hLs hd=>?_
     have d182:T.getD 182 undef=_:=hd ⟨10,.data⟩ (by simp) rfl _ rfl
     clear hag hd
     go_simp
     refine (HRR.out W' hJ).mono ?_
     rintro e w' ⟨rfl,hb⟩
     exact ⟨_,rfl,rfl,keepB hJ hb,hb⟩
    ·refine RStepK.want rfl rfl rfl (by kernel_rfl) (fun v w h=>h) fun T W' L hag hL hJ hLs hd=>?_
     have d181:T.getD 181 undef=_:=hd ⟨9,.data⟩ (by simp) rfl _ rfl
     have d183:T.getD 183 undef=_:=hd ⟨11,.data⟩ (by simp) rfl _ rfl
     clear hag hd
     go_simp
     first | exact ⟨_,rfl,rfl⟩ | exact ⟨_,rfl,rfl,brefl _⟩ | exact ⟨_,rfl,rfl,hJ,brefl _⟩
    ·refine RStepK.of rfl fun T W' L hag hL hJ hLs hd=>?_
     have d179:T.getD 179 undef=_:=hd ⟨7,.data⟩ (by simp) rfl _ rfl
     have d184:T.getD 184 undef=_:=hd ⟨12,.data⟩ (by simp) rfl _ rfl
     clear hag hd
     go_simp
     first | exact ⟨_,rfl,rfl⟩ | exact ⟨_,rfl,rfl,brefl _⟩ | exact ⟨_,rfl,rfl,hJ,brefl _⟩
    ·refine RStepK.of rfl fun T W' L hag hL hJ hLs hd=>?_
     have d185:T.getD 185 undef=_:=hd ⟨13,.data⟩ (by simp) rfl _ rfl
     clear hag hd
     go_simp
     first | exact ⟨_,rfl,rfl⟩ | exact ⟨_,rfl,rfl,brefl _⟩ | exact ⟨_,rfl,rfl,hJ,brefl _⟩
    ·refine RStepK.want rfl rfl rfl (by kernel_rfl) (fun v w h=>h) fun T W' L hag hL hJ hLs hd=>?_
     have e12:T.getD 12 undef=_:=(agree_at hag 12 (by kernel_rfl)).trans rfl
     clear hag hd
     go_simp
     first | exact ⟨_,rfl,rfl⟩ | exact ⟨_,rfl,rfl,brefl _⟩ | exact ⟨_,rfl,rfl,hJ,brefl _⟩
    ·refine RStepK.want rfl rfl rfl (by kernel_rfl) (fun v w h=>h) fun T W' L hag hL hJ hLs hd=>?_
     have e14:T.getD 14 undef=_:=(agree_at hag 14 (by kernel_rfl)).trans rfl
     clear hag hd
     go_simp
     first | exact ⟨_,rfl,rfl⟩ | exact ⟨_,rfl,rfl,brefl _⟩ | exact ⟨_,rfl,rfl,hJ,brefl _⟩
    ·refine RStepK.want rfl rfl rfl (by kernel_rfl) (fun v w h=>h) fun T W' L hag hL hJ hLs hd=>?_
     have d188:T.getD 188 undef=_:=hd ⟨16,.data⟩ (by simp) rfl _ rfl
     clear hag hd
     go_simp
     first | exact ⟨_,rfl,rfl⟩ | exact ⟨_,rfl,rfl,brefl _⟩ | exact ⟨_,rfl,rfl,hJ,brefl _⟩
    ·refine RStepK.want rfl rfl rfl (by kernel_rfl) (fun v w h=>h) fun T W' L hag hL hJ hLs hd=>?_
     have d189:T.getD 189 undef=_:=hd ⟨17,.data⟩ (by simp) rfl _ rfl
     clear hag hd
     go_simp
     first | exact ⟨_,rfl,rfl⟩ | exact ⟨_,rfl,rfl,brefl _⟩ | exact ⟨_,rfl,rfl,hJ,brefl _⟩
    ·refine RStepK.want rfl rfl rfl (by kernel_rfl) (fun v w h=>h) fun T W' L hag hL hJ hLs hd=>?_
     have d190:T.getD 190 undef=_:=hd ⟨18,.data⟩ (by simp) rfl _ rfl
     obtain ⟨z8,z11⟩:=HCC.out W' hJ
     clear hag hd
     go_simp
     first | exact ⟨_,rfl,rfl⟩ | exact ⟨_,rfl,rfl,brefl _⟩ | exact ⟨_,rfl,rfl,hJ,brefl _⟩
    ·refine RStepK.want rfl rfl rfl (by kernel_rfl) (fun v w h=>h) fun T W' L hag hL hJ hLs hd=>?_
     have d187:T.getD 187 undef=_:=hd ⟨15,.data⟩ (by simp) rfl _ rfl
     have d191:T.getD 191 undef=_:=hd ⟨19,.data⟩ (by simp) rfl _ rfl
     clear hag hd
     go_simp
     refine (HBL.out W' hJ).mono ?_
     rintro e w' ⟨rfl,hb⟩
     exact ⟨_,rfl,rfl,keepB hJ hb,hb⟩
    ·refine RStepK.want rfl rfl rfl (by kernel_rfl) (fun v w h=>h) fun T W' L hag hL hJ hLs hd=>?_
     have d192:T.getD 192 undef=_:=hd ⟨20,.data⟩ (by simp) rfl _ rfl
     clear hag hd
     go_simp
     first | exact ⟨_,rfl,rfl⟩ | exact ⟨_,rfl,rfl,brefl _⟩ | exact ⟨_,rfl,rfl,hJ,brefl _⟩
    ·refine RLastK.of rfl fun T W' L hag hLs hL hJ hd=>?_
     have d186:T.getD 186 undef=_:=hd 14 _ (by simp) rfl
     have d193:T.getD 193 undef=_:=hd 21 _ (by simp) rfl
     obtain ⟨f,hf,hT⟩:=agree_fn hag
     have d172:T.getD 172 undef=_:=hd 0 _ (by simp) rfl
     have h172:=(hf 172).trans d172
     have d173:T.getD 173 undef=_:=hd 1 _ (by simp) rfl
     have h173:=(hf 173).trans d173
     have d174:T.getD 174 undef=_:=hd 2 _ (by simp) rfl
     have h174:=(hf 174).trans d174
     have d175:T.getD 175 undef=_:=hd 3 _ (by simp) rfl
     have h175:=(hf 175).trans d175
     have d176:T.getD 176 undef=_:=hd 4 _ (by simp) rfl
     have h176:=(hf 176).trans d176
     have d177:T.getD 177 undef=_:=hd 5 _ (by simp) rfl
     have h177:=(hf 177).trans d177
     have d178:T.getD 178 undef=_:=hd 6 _ (by simp) rfl
     have h178:=(hf 178).trans d178
     have d179:T.getD 179 undef=_:=hd 7 _ (by simp) rfl
     have h179:=(hf 179).trans d179
     have d180:T.getD 180 undef=_:=hd 8 _ (by simp) rfl
     have h180:=(hf 180).trans d180
     have d181:T.getD 181 undef=_:=hd 9 _ (by simp) rfl
     have h181:=(hf 181).trans d181
     have d182:T.getD 182 undef=_:=hd 10 _ (by simp) rfl
     have h182:=(hf 182).trans d182
     have d183:T.getD 183 undef=_:=hd 11 _ (by simp) rfl
     have h183:=(hf 183).trans d183
     have d184:T.getD 184 undef=_:=hd 12 _ (by simp) rfl
     have h184:=(hf 184).trans d184
     have d185:T.getD 185 undef=_:=hd 13 _ (by simp) rfl
     have h185:=(hf 185).trans d185
     have h186:=(hf 186).trans d186
     have d187:T.getD 187 undef=_:=hd 15 _ (by simp) rfl
     have h187:=(hf 187).trans d187
     have d188:T.getD 188 undef=_:=hd 16 _ (by simp) rfl
     have h188:=(hf 188).trans d188
     have d189:T.getD 189 undef=_:=hd 17 _ (by simp) rfl
     have h189:=(hf 189).trans d189
     have d190:T.getD 190 undef=_:=hd 18 _ (by simp) rfl
     have h190:=(hf 190).trans d190
     have d191:T.getD 191 undef=_:=hd 19 _ (by simp) rfl
     have h191:=(hf 191).trans d191
     have d192:T.getD 192 undef=_:=hd 20 _ (by simp) rfl
     have h192:=(hf 192).trans d192
     have h193:=(hf 193).trans d193
     have HJ:=Lib.hid hJ
     clear hag hd d172 d173 d174 d175 d176 d177 d178 d179 d180 d181 d182 d183 d184 d185 d186 d187 d188 d189 d190 d191 d192 d193 hJ hf
     rw [hT]
     clear hT
     simp only [List.pop_toArray,List.dropLast_cons_cons,List.dropLast_singleton,List.filterMap_cons,List.filterMap_nil,List.foldl_cons,List.foldl_nil,List.setIfInBounds_toArray,List.set_cons_succ,List.set_cons_zero,h172,h173,h174,h175,h176,h177,h178,h179,h180,h181,h182,h183,h184,h185,h186,h187,h188,h189,h190,h191,h192,h193]
     have HT5:=Lib.hid (HTT.out.below HJ.out)
     have HE5:=Lib.hid (kb HJ.out HSH.out)
     clear HJ HTT HSH HEP HRP HRR HBL HCC
     go_wp2_with fail
     go_roundw
     case rel=>exact ⟨k+1,hp,rb,rh,rr,rm,cap,cm,m,v,rfl,rfl,by go_num,by omega,hcm,HT5.out,HPS.out,HE5.out⟩
     case measure=>simp [intOf];omega
  ·obtain rfl:k=N:=by omega
   have hki:¬ ((k:Int)<k):=by omega
   have HF:=Lib.hid (HPS.out.facts (by omega))
   have hdn:=HF.out.dn
   obtain ⟨g3,R,c3,A,c,hR0,hR8,htr⟩:=HTT.out.td.trR
   have HTR:=Lib.hid htr
   have HT1:=Lib.hid (HTT.out.td.traceP (by omega))
   have HBW:=Lib.hid HTT.out.bel
   have hR0i:(0:Int)<(R:Int):=by omega
   clear htr HTT HPS HSH
   go_wp2_with fail
   refine HT1.out.mono ?_
   rintro e wa ⟨⟨tv,rfl,hto⟩,hba⟩
   obtain ⟨At,ct,rfl,_,_⟩:=RowsAt.val hto
   have HTO:=Lib.hid hto
   have HTA:=Lib.hid (HTR.out.below hba)
   have HBA:=Lib.hid (keepB HBW.out hba)
   obtain ⟨LT,hLT⟩:∃ LT,(traceL m 0).length=LT:=⟨_,rfl⟩
   have hlt9:(traceL m 0).length≤1000000:=by
    have h1:(traceL m 0).length≤m.done.length:=by unfold traceL;rw [List.length_map];exact List.length_filter_le _ _
    omega
   have a1:=HTA.out.tab
   have a2:=HTA.out.row
   rw [hLT] at HTO hlt9 a2 ⊢
   have HLT:=Lib.hid hLT
   clear hto hba hLT HT1 HTR HF hdn
   generalize W.heap.size=bw at *
   go_wp2_with fail
   clear a1 a2
   go_loopw [18] (fun i wr=>∃ j:Nat,i=.int .i64 j∧j≤LT∧Hid (Below wa.heap.size wa wr)) (fun i _=>LT-(intOf i).toNat)
   case atStart=>exact ⟨0,rfl,by omega,brefl _⟩
   case round =>
    obtain ⟨j,rfl,hj,HBJ⟩:=hrel
    obtain ⟨w3,rfl⟩:∃ w3,w3=wr:=⟨wr,rfl⟩
    by_cases hjn:j<LT
    ·obtain ⟨tt,ht⟩:∃ t,(traceL m 0)[j]?=some t:=⟨_,List.getElem?_eq_getElem (by rw [HLT.out];exact hjn)⟩
     have hv3:TxtOwn w3 bw (.slice At LT ct) (traceL m 0):=RowsAt.keep HTO.out (fun k hk _=>HBJ.out.block k hk)
     obtain ⟨gt,capt,u,e1,_,_,hcu,_,hur⟩:=hv3.row ht
     injection e1 with e1 e2 e3
     subst e1;subst e3
     obtain ⟨Au,cu,rfl,_,_,hyu⟩:=byt_own hur.1 rfl
     have cv1:(convert 48 9 (.slice Au tt.length cu)).run Tryz.prog w3=.ok (.string (strOfNums tt)) w3:=conv_any hyu rfl
     have cv2:(convert 48 9 (.slice Au tt.length cu)).run Tryz.prog w3.drew=.ok (.string (strOfNums tt)) w3.drew:=conv_any (hyu.drew 1) rfl
     have htr3:=HTA.out.below HBJ.out
     have a1:=htr3.tab
     have a2:=htr3.row
     obtain ⟨ad,rfl,a4⟩:=htr3.str j tt ht
     rw [HLT.out] at a2
     have hji:(j:Int)<LT:=by omega
     clear hv3 hur hyu htr3 ht e2
     generalize strOfNums tt=st at *
     generalize tt.length=tl at *
     go_upto_region 43 with fail
     have b1:w3.drew.cell? ⟨hh,3,none⟩=_:=a1
     have b2:w3.drew.cell? ⟨g3,0,none⟩=_:=a2
     have b4:w3.drew.cell? (ad.add j)=_:=a4
     have bu:w3.drew.cell? ⟨gt,j,none⟩=_:=hcu
     go_still_tail 14,(by kernel_rfl)
     change wpList _ _ _ _ _ w3.drew
     have HBD:Hid (Below wa.heap.size wa w3.drew):=HBJ.out.drew
     clear a1 a2 a4 hcu cv1 cv2 b1 b2 b4 bu
     generalize w3.drew=w4 at *
     go_wp2_with fail
     go_roundw
     case rel=>exact ⟨j+1,by go_num,by omega,HBD.out⟩
     case measure=>simp [intOf];omega
    ·obtain rfl:j=LT:=by omega
     have hji:¬ ((j:Int)<j):=by omega
     go_wp2_with fail
     go_ret
     exact ⟨rfl,keepB HBA.out HBJ.out⟩
set_option maxRecDepth 100000 in
theorem lifted (os:Os) (started:os.Started) (H:Type) (enc:TypeId × Value→H) :
 ReturnsInHanded {} Tryz.checked os 3 .any (Rows.volAllSpec.pre6 enc Tryz.prog Tryz.f3 Rows.volAllRow.domain false) (Rows.volAllSpec.post enc Tryz.prog Tryz.f3 false true false false):=by
 refine returnsInHanded_of_change (C:=Tryz.checked) own started (by kernel_rfl) Tryz.func3
  (ChangeSpec.witness6 (enc:=enc) (C:=Tryz.checked) false ⟨#[],#[.int .u8 0,.int .u8 0,.slice none 0 0],[]⟩ 8 (by kernel_rfl) (by kernel_rfl) (by kernel_rfl) (by kernel_rfl)) ?_
 intro W base args ds gs before hval0 hW hcnd _
 have hval:∀ (j:Nat) t v,Tryz.f3.params[j]?=some t→args[j]?=some v→Value.okWide Tryz.prog W .any base t v:=hval0
 have hW':=hW
 obtain ⟨p,q,hA0,hV,rfl,hfz,hnd⟩:=hW
 have hA:DataW.TrodAll enc Tryz.prog W 0 (fun _=>true) true Tryz.f3.params.toList args.toList ds p:=hA0
 rw [Tryz.params3] at hA hval
 obtain ⟨v0,vs0,d0,ds0,p0,q0,hargs,rfl,rfl,h0,r0⟩:=trodAll_cons hA
 obtain ⟨v1,vs1,d1,ds1,p1,q1,rfl,rfl,rfl,h1,r1⟩:=trodAll_cons r0
 obtain ⟨v2,vs2,d2,ds2,p2,q2,rfl,rfl,rfl,h2,r2⟩:=trodAll_cons r1
 obtain ⟨rfl,rfl,rfl⟩:=trodAll_nil r2
 obtain rfl:args=#[v0,v1,v2]:=by cases args;simp_all
 obtain ⟨rfl,rfl⟩:=trodVars_none hV
 obtain ⟨x0,rfl,rfl,rfl,wx0⟩:=open_int Tryz.underlying5 (hval 0 5 v0 rfl rfl) h0
 obtain ⟨x1,rfl,rfl,rfl,wx1⟩:=open_int Tryz.underlying5 (hval 1 5 v1 rfl rfl) h1
 obtain ⟨a2,len2,cap2,rfl⟩:=okWide_slice Tryz.underlying22 (hval 2 22 v2 rfl rfl)
 clear hA0 hval0
 simp only [List.append_nil] at hW'
 have hlt2:∀ y∈p2,y.block<W.heap.size:=fun y hy=>by simpa using hW'.lt y (by simp [hy])
 have harg2:∀ W':World,Below W.heap.size W W'→DataW.Trod enc Tryz.prog W' 0 (fun b=>decide (b<W.heap.size)) true 22 (.slice a2 len2 cap2) d2 p2 :=
  fun W' hn=>Below.trod laidOut (by kernel_rfl) (of_decide_eq_true (by kernel_rfl)) h2 hn (fun y hy=>hlt2 y hy)
 obtain ⟨fu2,hf2⟩:=h2
 obtain ⟨A2,l2,c2,e2,hd2,hm2,hy2,hB2⟩:=open_wds hf2
 simp [Value.cells] at e2
 obtain ⟨rfl,rfl,rfl⟩:=e2
 refine (walk x0 x1 a2 l2 cap2 W (by have:=bounds_u8 wx0;omega) (by have:=bounds_u8 wx1;omega) hd2 hm2 hB2 hy2).mono fun e W' ⟨he,bel⟩=>?_
 subst he
 exact ⟨_,rfl,_,_,_,[],_,[],hW',(trodAll_cons_mk (shut_bool Tryz.underlying4 _) trodAll_mk0),(trodAll_cons_mk (shut_int Tryz.underlying5 wx0) (trodAll_cons_mk (shut_int Tryz.underlying5 wx1) (trodAll_cons_mk (harg2 _ bel) trodAll_mk0))),rfl,bel.frame _,fun h=>by cases h⟩
theorem over:Rows.volAllRow.holds Tryz.pinned (OpenSpec.ofChange Rows.volAllSpec) :=
 OpenClaim.holds_of_wide 3 Tryz.f3 rfl rfl rfl rfl rfl rfl rfl ⟨rfl,rfl,rfl,rfl,rfl⟩ rfl rfl rfl rfl rfl (by kernel_rfl) Tryz.func3 (by kernel_rfl)
  (of_decide_eq_true (by kernel_rfl)) (by unfold Func.isWrapper;first | (rw [if_pos (by decide +kernel)];kernel_rfl) | (rw [if_neg (by decide +kernel)];exact ⟨rfl,rfl⟩))
  (fun os started H enc _=>lifted os started H enc)
theorem proved:Rows.VolAllSaid :=
 over
#print axioms proved
end Go.Proofs.YtamnpblijdgdaaaGreat.volAll
