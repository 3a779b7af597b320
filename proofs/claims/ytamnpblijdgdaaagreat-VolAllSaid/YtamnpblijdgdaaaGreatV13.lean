/- For VolAll: contracts and facts, part 13. -/
import Derived.Lib.SlBytesConst
import Derived.IntWalk
import Derived.Laws.MakeOwn
import Derived.Deep.Onto
import Derived.Deep.DeepCutAuto
import Derived.Laws.CopyRow
import Derived.Laws.ResultCell
import Derived.Laws.Tables
import Derived.Laws.Rows
import Derived.Stop.BytesEq
import Derived.StillTailTactics
import Derived.Laws.BitsAllLaws
import Derived.Test.YtamnpblijdgdaaaGreatV01
import Derived.Test.YtamnpblijdgdaaaGreatV02
import Derived.Test.YtamnpblijdgdaaaGreatV03
namespace Go.Proofs.YtamnpblijdgdaaaGreat
open Go.ChangeShapes Go.WideShapes Go.ChangeAt Go.RowKit
open Fx
set_option linter.unusedVariables false
set_option maxRecDepth 100000
def sumStep (s:Nat × Nat) (x:Int):Nat × Nat:=((s.1+x.toNat)%65521,(s.2+(s.1+x.toNat)%65521)%65521)
def sumAC (bs:List Int):Nat × Nat:=bs.foldl sumStep (1,0)
def sumV (bs:List Int):Nat:=(sumAC bs).2*65536+(sumAC bs).1
theorem sumStep_lt (s:Nat × Nat) (x:Int):(sumStep s x).1<65521∧(sumStep s x).2<65521:=by
 unfold sumStep;exact ⟨Nat.mod_lt _ (by omega),Nat.mod_lt _ (by omega)⟩
theorem sumAC_snoc (bs:List Int) (x:Int):sumAC (bs++[x])=sumStep (sumAC bs) x:=by unfold sumAC;rw [List.foldl_append];rfl
theorem sumAC_lt (bs:List Int):(sumAC bs).1<65521∧(sumAC bs).2<65521:=by
 rcases List.eq_nil_or_concat bs with rfl | ⟨l,x,rfl⟩
 ·unfold sumAC;simp
 ·rw [List.concat_eq_append,sumAC_snoc];exact sumStep_lt _ _
theorem sumV_lt (bs:List Int):sumV bs<4294967296:=by have:=sumAC_lt bs;unfold sumV;omega
theorem fold_any (n:Nat) (h:n<131042) (w:World) :
 Calls Tryz.prog 116 #[.float .f64 (fb n)] w fun e w'=>e=.returned (.float .f64 (fb (n%65521)))∧w=w':=by
 have g:=ge_fb n 65521 (by omega) (by omega)
 rw [fb_mod] at g
 by_cases h1:65521≤n
 ·have s:=fun w:World=>run_float_arith (P:=Tryz.prog) w .sub 82 .f64 _ _ _ (sub_fb n 65521 (by omega) h1)
  rw [fb_mod] at s
  have e:n-65521=n%65521:=by omega
  rw [e] at s
  rw [decide_eq_true h1] at g
  clear e h1
  generalize hm:n%65521=m at *
  clear hm
  go_enter Tryz.func116,Tryz.ntmps116
  go_wp2
  go_ret
  exact ⟨rfl,rfl⟩
 ·have e:n%65521=n:=Nat.mod_eq_of_lt (by omega)
  rw [e]
  rw [decide_eq_false h1] at g
  clear e h1
  go_enter Tryz.func116,Tryz.ntmps116
  go_wp2
  go_ret
  exact ⟨rfl,rfl⟩
theorem sadd_any (a c x:Nat) (ha:a<65521) (hc:c<65521) (hx:x<256) (w:World) :
 Calls Tryz.prog 114 #[.complex .f64 (fb a) (fb c),.int .u8 x] w fun e w'=>e=.returned (.complex .f64 (fb ((a+x)%65521)) (fb ((c+(a+x)%65521)%65521)))∧w=w':=by
 have s1:∀ w:World,(binOp .add 82 (.float .f64 (fb a)) (.float .f64 (floatOfInt .f64 (x:Int)))).run Tryz.prog w=_:=fun w:World=>run_float_arith (P:=Tryz.prog) w .add 82 .f64 _ _ _ (add_fb a x (by omega))
 have f1:=fun w:World=>fold_any (a+x) (by omega) w
 generalize hm:(a+x)%65521=m at *
 have hm':m<65521:=by omega
 have s2:=fun w:World=>run_float_arith (P:=Tryz.prog) w .add 82 .f64 _ _ _ (add_fb c m (by omega))
 have f2:=fun w:World=>fold_any (c+m) (by omega) w
 generalize hm:(c+m)%65521=m2 at *
 clear hm
 generalize hy:a+x=y at *
 clear hy
 have F1:=Lib.hid f1
 have F2:=Lib.hid f2
 clear f1 f2
 go_enter Tryz.func114,Tryz.ntmps114
 go_wp2_with fail
 refine (F1.out _).mono ?_;rintro e w' ⟨rfl,rfl⟩
 go_wp2_with fail
 refine (F2.out _).mono ?_;rintro e w' ⟨rfl,rfl⟩
 go_wp2_with fail
 go_ret
 exact ⟨rfl,rfl⟩
theorem sum_any (A:Option Addr) (bs:List Int) (n d:Nat) (w:World) (hn:bs.length=n) (hl:n≤1000000) (hB:AllB bs) (hy:Byt w A bs) :
 Calls Tryz.prog 101 #[.slice A n d] w fun e w'=>e=.returned (.int .u32 (sumV bs))∧w=w':=by
 have HY:=Lib.hid hy
 have HN:=Lib.hid hn
 have HB:=Lib.hid hB
 clear hn hB hy
 go_enter Tryz.func101,Tryz.ntmps101
 go_wp2
 go_loop [3,8] (fun z i=>∃ k:Nat,k≤n∧i=.int .i64 k∧z=.complex .f64 (fb (sumAC (bs.take k)).1) (fb (sumAC (bs.take k)).2)) (fun _ i=>n-(intOf i).toNat)
 case atStart=>exact ⟨0,Nat.zero_le _,rfl,by rw [show sumAC (bs.take 0)=(1,0) from rfl,fb_one,fb_zero]⟩
 case round =>
  obtain ⟨k,hk,rfl,rfl⟩:=hrel
  have hlt2:=sumAC_lt (bs.take k)
  by_cases hlt:k<n
  ·obtain ⟨x,hx⟩:∃ x,bs[k]?=some x:=⟨_,List.getElem?_eq_getElem (by rw [HN.out];exact hlt)⟩
   obtain ⟨ad,rfl,hc0⟩:=HY.out k x hx
   have hxb:=HB.out x (List.mem_of_getElem? hx)
   obtain ⟨y,rfl⟩:∃ y:Nat,x=(y:Int):=⟨x.toNat,by omega⟩
   have hyb:y<256:=by omega
   have HS:Hid (sumAC (bs.take (k+1))=(((sumAC (bs.take k)).1+y)%65521,((sumAC (bs.take k)).2+((sumAC (bs.take k)).1+y)%65521)%65521)):=by
    rw [take_snoc' hx,sumAC_snoc];unfold sumStep;rw [Int.toNat_natCast];exact rfl
   have HF:Hid (∀ w,_):=fun w:World=>sadd_any _ _ y hlt2.1 hlt2.2 hyb w
   clear hx hxb hlt2
   generalize (sumAC (bs.take k)).1=a at *
   generalize (sumAC (bs.take k)).2=c at *
   go_wp2_with fail
   refine (HF.out _).mono ?_;rintro e w' ⟨rfl,rfl⟩
   go_wp2_with fail
   go_round
   case rel=>exact ⟨k+1,by omega,by go_num,by rw [HS.out];simp only [Nat.add_mod_mod]⟩
   case measure=>simp [intOf];omega
  ·have e:bs.take k=bs:=List.take_of_length_le (by rw [HN.out];omega)
   rw [e] at hlt2 ⊢
   have v1:=fun w:World=>run_convert_float_int w 82 54 .f64 .u32 _ _ (P:=Tryz.prog) (by kernel_rfl) Tryz.underlying54 (int_fb (sumAC bs).1 (by omega))
   have v2:=fun w:World=>run_convert_float_int w 82 54 .f64 .u32 _ _ (P:=Tryz.prog) (by kernel_rfl) Tryz.underlying54 (int_fb (sumAC bs).2 (by omega))
   have HV:Hid (sumV bs=(sumAC bs).2*65536+(sumAC bs).1):=Lib.hid rfl
   have b1:=hlt2.1
   have b2:=hlt2.2
   clear hlt2 e
   generalize (sumAC bs).1=a at *
   generalize (sumAC bs).2=c at *
   have u1:IntKind.u32.wrap ((c:Int)*65536)=(c:Int)*65536:=IntWalk.u32_in _ (by omega)
   have u2:IntKind.u32.wrap ((c:Int)*65536+a)=(c:Int)*65536+a:=IntWalk.u32_in _ (by omega)
   go_wp2
   go_ret
   exact ⟨ret_int (by rw [HV.out];omega),rfl⟩
end Go.Proofs.YtamnpblijdgdaaaGreat
namespace Go.Proofs.YtamnpblijdgdaaaGreat
open Go.ChangeShapes Go.WideShapes Go.ChangeAt Go.RowKit
set_option linter.unusedVariables false
set_option maxRecDepth 100000
theorem rsum_any (A:Option Addr) (bs:List Int) (n d:Nat) (w:World) (hn:bs.length=n) (hl:n≤1000000) (hB:AllB bs) (hy:Byt w A bs) :
 Calls Tryz.prog 106 #[.slice A n d] w fun e w'=>e=.returned (.int .u32 (sumV bs))∧w=w':=by
 have HY:=Lib.hid hy
 have HN:=Lib.hid hn
 have HB:=Lib.hid hB
 clear hn hB hy
 go_enter Tryz.func106,Tryz.ntmps106
 go_wp2
 go_loop [3,4,5] (fun za zc i=>∃ k:Nat,k≤n∧i=.int .i64 k∧za=.int .u64 ((sumAC (bs.take k)).1:Nat)∧zc=.int .u64 ((sumAC (bs.take k)).2:Nat)) (fun _ _ i=>n-(intOf i).toNat)
 case atStart=>exact ⟨0,Nat.zero_le _,rfl,rfl,rfl⟩
 case round =>
  obtain ⟨k,hk,rfl,rfl,rfl⟩:=hrel
  have hlt2:=sumAC_lt (bs.take k)
  by_cases hlt:k<n
  ·obtain ⟨x,hx⟩:∃ x,bs[k]?=some x:=⟨_,List.getElem?_eq_getElem (by rw [HN.out];exact hlt)⟩
   obtain ⟨ad,rfl,hc0⟩:=HY.out k x hx
   have hxb:=HB.out x (List.mem_of_getElem? hx)
   obtain ⟨y,rfl⟩:∃ y:Nat,x=(y:Int):=⟨x.toNat,by omega⟩
   have hyb:y<256:=by omega
   have HS:Hid (sumAC (bs.take (k+1))=(((sumAC (bs.take k)).1+y)%65521,((sumAC (bs.take k)).2+((sumAC (bs.take k)).1+y)%65521)%65521)):=by
    rw [take_snoc' hx,sumAC_snoc];unfold sumStep;rw [Int.toNat_natCast];exact rfl
   have b1:=hlt2.1
   have b2:=hlt2.2
   clear hx hxb hlt2
   generalize (sumAC (bs.take k)).1=a at *
   generalize (sumAC (bs.take k)).2=c at *
   go_wp2
   go_round
   case rel=>exact ⟨k+1,by omega,by go_num,by rw [HS.out];go_num,by rw [HS.out];simp only [Nat.add_mod_mod];go_num⟩
   case measure=>simp [intOf];omega
  ·have e:bs.take k=bs:=List.take_of_length_le (by rw [HN.out];omega)
   rw [e] at hlt2 ⊢
   have HV:Hid (sumV bs=(sumAC bs).2*65536+(sumAC bs).1):=Lib.hid rfl
   have b1:=hlt2.1
   have b2:=hlt2.2
   clear hlt2 e
   generalize (sumAC bs).1=a at *
   generalize (sumAC bs).2=c at *
   have u2:IntKind.u32.wrap ((c:Int)*65536+a)=(c:Int)*65536+a:=IntWalk.u32_in _ (by omega)
   go_wp2
   go_ret
   exact ⟨ret_int (by rw [HV.out];omega),rfl⟩
theorem byt_new {W:World} {C:Array Value} {t:TypeId} {fr:Nat × Nat} {bs:List Int} (hc:C.toList=Bs bs):Byt (W.alloc (.cells C t fr)) (some ⟨W.heap.size,0,none⟩) bs :=
 byt_blk (heap_alloc_new W (.cells C t fr)) hc
def be (n:Nat):Nat→List Int
 | 0=>[]
 | s+1=>((n/256 ^ s%256:Nat):Int) :: be n s
theorem be_length (n:Nat):∀ s,(be n s).length=s
 | 0=>rfl
 | s+1=>by show (be n s).length+1=s+1;rw [be_length n s]
theorem be_allB (n:Nat):∀ s,AllB (be n s)
 | 0=>fun x hx=>by cases hx
 | s+1=>fun x hx=>by
   rcases List.mem_cons.1 hx with rfl | h
   ·have:=Nat.mod_lt (n/256 ^ s) (show 0<256 by omega);omega
   ·exact be_allB n s x h
theorem be2_inj {a b:Nat} (ha:a<65536) (hb:b<65536) (h:be a 2=be b 2):a=b:=by
 unfold be be be at h
 simp only [List.cons.injEq,Nat.pow_succ,Nat.pow_zero,Nat.one_mul,Nat.div_one,and_true] at h
 omega
theorem be4_eq (n:Nat):be n 4=[((n/16777216%256:Nat):Int),((n/65536%256:Nat):Int),((n/256%256:Nat):Int),((n/1%256:Nat):Int)]:=rfl
theorem be2_eq (n:Nat):be n 2=[((n/256%256:Nat):Int),((n/1%256:Nat):Int)]:=rfl
set_option maxRecDepth 100000 in
theorem be4_inj {a b:Nat} (ha:a<4294967296) (hb:b<4294967296) (h:be a 4=be b 4):a=b:=by
 rw [be4_eq,be4_eq] at h
 have h1:=Int.ofNat.inj (List.cons.inj h).1
 have h2:=Int.ofNat.inj (List.cons.inj (List.cons.inj h).2).1
 have h3:=Int.ofNat.inj (List.cons.inj (List.cons.inj (List.cons.inj h).2).2).1
 have h4:=Int.ofNat.inj (List.cons.inj (List.cons.inj (List.cons.inj (List.cons.inj h).2).2).2).1
 clear h
 rw [Nat.div_one,Nat.div_one] at h4
 have ea:=Nat.div_add_mod a 256
 have eb:=Nat.div_add_mod b 256
 have ea2:a/65536=a/256/256:=by rw [Nat.div_div_eq_div_mul]
 have eb2:b/65536=b/256/256:=by rw [Nat.div_div_eq_div_mul]
 have ea3:a/16777216=a/256/256/256:=by rw [Nat.div_div_eq_div_mul,Nat.div_div_eq_div_mul]
 have eb3:b/16777216=b/256/256/256:=by rw [Nat.div_div_eq_div_mul,Nat.div_div_eq_div_mul]
 have la:a/16777216<256:=Nat.div_lt_of_lt_mul ha
 have lb:b/16777216<256:=Nat.div_lt_of_lt_mul hb
 rw [Nat.mod_eq_of_lt la,Nat.mod_eq_of_lt lb,ea3,eb3] at h1
 rw [ea2,eb2] at h2
 generalize a/256=a1 at *
 generalize b/256=b1 at *
 have f1:=Nat.div_add_mod a1 256
 have f2:=Nat.div_add_mod b1 256
 have f3:=Nat.div_add_mod (a1/256) 256
 have f4:=Nat.div_add_mod (b1/256) 256
 rw [h1,h2] at f3
 have f5:a1/256=b1/256:=f3.symm.trans f4
 rw [f5,h3] at f1
 have f6:a1=b1:=f1.symm.trans f2
 rw [f6,h4] at ea
 exact ea.symm.trans eb
theorem AllB.append {xs ys:List Int} (hx:AllB xs) (hy:AllB ys):AllB (xs++ys):=fun x h=>(List.mem_append.1 h).elim (hx x) (hy x)
theorem drop_set_here {α:Type} (l:List α) (k:Nat) (x:α) (h:k<l.length):(l.set k x).drop k=x :: l.drop (k+1):=by
 induction l generalizing k with
 | nil=>cases h
 | cons y l ih =>
   cases k with
   | zero=>rfl
   | succ k=>exact ih k (by simpa using h)
theorem size_alloc' (W:World) (o:Obj):(W.alloc o).heap.size=W.heap.size+1:=by show (W.heap.push o).size=_;simp
set_option maxRecDepth 100000 in
set_option maxHeartbeats 1600000 in
theorem number_any (w:World) (base:Nat) (v:Value) (m:Nat) (xs:List Int) (n s:Nat) (hown:w.ownsRow base 5 1 v m (Bs xs)) (hbase:base≤w.heap.size) (hm:m≤900000) (hs:s≤4) (hn:n<4294967296) :
 Calls Tryz.prog 100 #[v,.int .u32 n,.int .i64 s] w fun e w'=>∃ v',e=.returned v'∧w'.ownsRow base 5 1 v' (m+s) (Bs (xs++be n s))∧Below base w w':=by
 have HO:=Lib.hid hown
 clear hown
 go_enter Tryz.func100,Tryz.ntmps100
 go_wp2
 refine wp_scope1e (fun a' w'=>∃ (k:Nat) (v1:Value) (ys:List Int),k≤s∧Hid (w'.ownsRow base 5 1 v1 (m+(s-k)) (Bs (xs++ys))∧ys++be n k=be n s∧Below base w w')∧∃ u7 u8 u9 u10 u11 u12 u13 u14 u15 u16 u17 u18 u19:Value,a'={ tmps:=#[v1,.int .u32 n,.int .i64 k,undef,undef,undef,.slice none 0 0,u7,u8,u9,u10,u11,u12,u13,u14,u15,u16,u17,u18,u19],defers:=[] })
  (fun a' _=>(intOf (a'.tmps.getD 2 undef)).toNat) rfl ?_ ?_
 ·intro HF
  go_wp2
  go_step3
  rename_i hK
  exact hK _ _ (HF _ _ ⟨s,v,[],Nat.le_refl _,⟨by simpa using HO.out,rfl,Below.refl _ _⟩,_,_,_,_,_,_,_,_,_,_,_,_,_,rfl⟩)
 ·rintro a' W ⟨k,v1,ys,hk,HH,u7,u8,u9,u10,u11,u12,u13,u14,u15,u16,u17,u18,u19,rfl⟩
  by_cases hk0:k=0
  ·subst hk0
   go_wp2
   simp only [Exit.jump]
   go_ret
   obtain ⟨h1,h2,h3⟩:=HH.out
   exact ⟨_,rfl,by rw [← h2];simpa [be] using h1,h3⟩
  ·obtain ⟨j,rfl⟩:∃ j,k=j+1:=⟨k-1,by omega⟩
   have hq:(((j+1:Nat):Int)==0)=false:=by simp;omega
   have hj:j<4:=by omega
   have hsz:base≤W.heap.size:=Nat.le_trans hbase HH.out.2.2.size
   have hstep:∀ x:Int,x=((n/256 ^ j%256:Nat):Int)→∀ (W':World) (v':Value),W'.ownsRow base 5 1 v' (m+(s-(j+1))+1) (Bs ((xs++ys)++[x]))→Below base W W'→W'.ownsRow base 5 1 v' (m+(s-j)) (Bs (xs++(ys++[x])))∧(ys++[x])++be n j=be n s∧Below base w W':=by
    intro x hx W' v' h1 h2
    refine ⟨?_,?_,HH.out.2.2.trans h2⟩
    ·rw [show m+(s-j)=m+(s-(j+1))+1 by omega,← List.append_assoc];exact h1
    ·rw [← HH.out.2.1,hx,List.append_assoc];rfl
   have HS:=Lib.hid hstep
   clear hstep
   have hsj:((j+1:Nat):Int)-1=j:=by omega
   have HL:Hid (m+(s-(j+1))+1≤1000000):=by unfold Hid;omega
   rcases (show j=0∨j=1∨j=2∨j=3 by omega) with rfl | rfl | rfl | rfl
   all_goals
    go_wp2_with (first
     | (at_builtin
        refine wpList_app_byt _ rfl (.tmp 12) (.tmp 18) rfl base v1 (m+(s-_)) (xs++ys) rfl (HH.out.1.alloc _) (some ⟨W.heap.size,0,none⟩) 1 1 [_] rfl (byt_blk (heap_alloc_new _ _) rfl) rfl HL.out (by rw [size_alloc'];omega) ?_
        intro v2 w2 h2 hg2 _
        have hB2:Below base W w2:=(((Below.refl _ _).alloc hsz _).grown hg2 (by rw [size_alloc'];omega) (fun k hk=>(HH.out.1.lt k hk).1))
        have H2:=Lib.hid h2
        clear h2 hg2))
    go_step3
    refine ⟨rfl,⟨_,v2,ys++[_],by omega,HS.out _ ?_ _ _ H2.out hB2,_,_,_,_,_,_,_,_,_,_,_,_,_,rfl⟩,?_⟩
    ·first
      | (rw [Int.natCast_emod,Int.natCast_ediv];rfl)
      | (simp;done)
      | (simp;omega)
    ·simp [intOf]
theorem div_pow (v m:Nat):v/256 ^ m/256=v/256 ^ (m+1):=by rw [Nat.div_div_eq_div_mul,Nat.pow_succ]
set_option maxRecDepth 100000 in
set_option maxHeartbeats 1600000 in
theorem high1_any (v n:Nat) (w:World) (hv:v<18446744073709551616) (hn:n≤8) :
 Calls Tryz.prog 81 #[.int .u64 v,.int .i64 n] w fun e w'=>∃ v',e=.returned v'∧w'.ownsRow w.heap.size 5 1 v' n (Bs (be v n))∧Below w.heap.size w w':=by
 obtain ⟨i0,hi,hz0,hz1,hz2⟩:=info_parts info5
 have hmk:=fun w:World=>run_make (P:=Tryz.prog) w 48 5 i0 _ Tryz.underlying48 hi hz0 .i64 .i64 (n:Int) (n:Int) (by omega) (by omega) (by rw [hz2];omega) (by omega)
 generalize hC:madeCells (Value.int .u8 0).cells ((n:Int).toNat*i0.size)=C0 at hmk
 have HC:Hid (C0.size=n):=by rw [← hC,size_madeCells,hz1];unfold Hid;simp
 rw [show ((n:Int)).toNat=n by omega] at hmk
 clear hC hi hz0 hz1 hz2
 have HB0:Hid (∀ C,Below w.heap.size w (w.alloc (Obj.cells C 5))):=fun C=>(Below.refl _ _).alloc (Nat.le_refl _) _
 go_enter Tryz.func81,Tryz.ntmps81
 go_wp2
 have hblk0:=heap_alloc_new w (Obj.cells C0 5)
 have hbel0:=HB0.out C0
 have HV:=Lib.hid hv
 generalize w.alloc (Obj.cells C0 5)=W0 at *
 have HS:Hid (w.heap.size=w.heap.size):=rfl
 generalize hg:w.heap.size=g at *
 clear hmk HB0 hv
 go_loopw [0,6] (fun z i wr=>∃ (j:Nat) (C:Array Value) (x:Nat),i=.int .i64 ((j:Int)-1)∧z=.int .u64 x∧j≤n∧x=v/256 ^ (n-j)∧wr.heap[g]?=some (.cells C 5 (0,0))∧C.size=n∧C.toList.drop j=Bs (be v (n-j))∧Below g w wr) (fun _ i _=>(intOf i+1).toNat)
 case atStart =>
  refine ⟨n,C0,v,rfl,rfl,Nat.le_refl _,by simp,hblk0,HC.out,?_,hbel0⟩
  rw [Nat.sub_self,List.drop_of_length_le (by rw [Array.length_toList,HC.out];omega)];rfl
 case round =>
  obtain ⟨j,C,x,rfl,rfl,hj,hx,hblk,hsz,hl,hbel⟩:=hrel
  have HX:=Lib.hid hx
  have HBK:=Lib.hid hblk
  have HL:=Lib.hid hl
  have hxv:x<18446744073709551616:=by rw [hx];exact Nat.lt_of_le_of_lt (Nat.div_le_self _ _) HV.out
  clear hx hblk hl hblk0
  by_cases hj0:j=0
  ·subst hj0
   go_wp2
   go_ret
   refine ⟨_,rfl,⟨by rw [Bs_length,be_length];omega,Or.inr ⟨g,n,C,rfl,Nat.le_refl _,HBK.out,Nat.le_refl _,by simp only [maxLen];omega,by omega,?_⟩⟩,hbel⟩
   have h:=HL.out
   rw [List.drop_zero,Nat.sub_zero] at h
   rw [List.take_of_length_le (by simp [hsz]),h]
  ·obtain ⟨k,rfl⟩:∃ k,j=k+1:=⟨j-1,by omega⟩
   have hk:((k+1:Nat):Int)-1=k:=by omega
   rw [hk]
   obtain ⟨u,hu⟩:∃ u,C[k]?=some u:=⟨_,Array.getElem?_eq_getElem (by rw [hsz];omega)⟩
   have c0:wr.cell? ⟨g,k,none⟩=some u:=(blk_cell HBK.out k).trans hu
   have f0:wr.frozen? ⟨g,k,none⟩=false:=blk_free HBK.out k
   clear hu hk
   go_wp2
   go_roundw
   case rel =>
    refine ⟨k,_,x/256,by go_num,by go_num,by omega,?_,heap_setCell_same' HBK.out _,by simp [hsz],?_,hbel.setCell (Nat.le_refl _) _⟩
    ·rw [HX.out,div_pow,show n-(k+1)+1=n-k by omega]
    ·rw [Array.toList_setIfInBounds,show n-k=(n-(k+1))+1 by omega]
     show _=Bs (((v/256 ^ (n-(k+1))%256:Nat):Int) :: be v (n-(k+1)))
     rw [← HX.out]
     rw [drop_set_here _ _ _ (by simp [hsz];omega),HL.out]
     unfold Bs
     rw [List.map_cons]
     congr 1
     try simp
   case measure=>simp [intOf]
def blkL (k:Int) (bs:List Int):List Value:=.int .i64 k :: Bs bs
def MayB (k t:Int):Prop:=(0≤k∧k≤7)∧0≤t∧t<200
instance (k t:Int):Decidable (MayB k t):=by unfold MayB;infer_instance
def headB (l k:Int) (t:Nat) (bs:List Int):List Int:=[k,l]++be t 2++bs
def sealB (l k:Int) (t:Nat) (bs:List Int):List Int:=headB l k t bs++be (sumV (headB l k t bs)) 4
theorem headB_length {l k:Int} {t:Nat} {bs:List Int} (h:bs.length=56):(headB l k t bs).length=60:=by unfold headB;simp [be_length,h]
theorem sealB_length {l k:Int} {t:Nat} {bs:List Int} (h:bs.length=56):(sealB l k t bs).length=64:=by unfold sealB;rw [List.length_append,headB_length h,be_length]
theorem headB_allB {l k:Int} {t:Nat} {bs:List Int} (hl:0≤l∧l≤255) (hk:0≤k∧k≤7) (hB:AllB bs):AllB (headB l k t bs):=by
 unfold headB
 refine AllB.append (AllB.append (fun x hx=>?_) (be_allB _ _)) hB
 simp only [List.mem_cons,List.not_mem_nil,or_false] at hx
 rcases hx with rfl | rfl <;> omega
theorem sealB_allB {l k:Int} {t:Nat} {bs:List Int} (hl:0≤l∧l≤255) (hk:0≤k∧k≤7) (hB:AllB bs):AllB (sealB l k t bs) :=
 AllB.append (headB_allB hl hk hB) (be_allB _ _)
theorem add_off (g o i:Nat):(⟨g,o,none⟩:Addr).add i=⟨g,o+i,none⟩:=by unfold Addr.add;split <;> simp_all
theorem byt_body {W:World} {g:Nat} {C:Array Value} {t:TypeId} {fr:Nat × Nat} {k:Int} {bs:List Int} (h:W.heap[g]?=some (.cells C t fr)) (hc:C.toList=blkL k bs):Byt W (some ⟨g,1,none⟩) bs:=by
 intro i x hi
 refine ⟨_,rfl,?_⟩
 rw [add_off,cell_of_row _ _ _ _ _ _ h,← Array.getElem?_toList,hc,Nat.add_comm]
 exact Bs_at hi
theorem blk_kind {W:World} {g:Nat} {C:Array Value} {t:TypeId} {fr:Nat × Nat} {k:Int} {bs:List Int} (h:W.heap[g]?=some (.cells C t fr)) (hc:C.toList=blkL k bs):W.cell? ⟨g,0,none⟩=some (.int .i64 k):=by
 rw [cell_of_row _ _ _ _ _ _ h,← Array.getElem?_toList,hc];rfl
set_option maxRecDepth 100000 in
set_option maxHeartbeats 3200000 in
theorem seal_no (l k t:Int) (C:Array Value) (bs:List Int) (w:World) (hl:0≤l∧l≤255) (hk:i64 k) (ht:i64 t) (hC:C.toList=blkL k bs) (hno:¬ MayB k t) :
 Calls Tryz.prog 75 #[.int .u8 l,.int .i64 t,.agg C] w fun e w'=>e=.returned (.tuple #[.slice none 0 0,.bool false])∧Below w.heap.size w w':=by
 have hblk:=heap_alloc_new w (Obj.cells C 71)
 have c0:=blk_kind hblk hC
 have hbel:Below w.heap.size w (w.alloc (Obj.cells C 71)):=(Below.refl _ _).alloc (Nat.le_refl _) _
 have HC:=Lib.hid hC
 clear hblk hC
 go_enter Tryz.func75,Tryz.ntmps75
 go_wp2
 refine wp_scope1e (fun a' w'=>w'=w.alloc (Obj.cells C 71)∧∃ u9 u10 u11 u12 u13 u14 u15 u16 u17 u18 u19 u20 u21 u22 u23 u24 u25 u26 u27 u28 u29 u30 u31 u32 u33 u34 u35 u36 u37 u38 u39 u40 u41 u42 u43:Value,a'={ tmps:=#[.int .u8 l,.int .i64 t,.agg C,undef,undef,.pointer (some ⟨w.heap.size,0,none⟩),.slice none 0 0,.bool false,.slice none 0 0,u9,u10,u11,u12,u13,u14,u15,u16,u17,u18,u19,u20,u21,u22,u23,u24,u25,u26,u27,u28,u29,u30,u31,u32,u33,u34,u35,u36,u37,u38,u39,u40,u41,u42,u43],defers:=[] }) (fun _ _=>0) rfl ?_ ?_
 ·intro _
  by_cases h1:k<0
  ·go_wp2
   go_step3
   exact ⟨rfl,rfl,_,_,_,_,_,_,_,_,_,_,_,_,_,_,_,_,_,_,_,_,_,_,_,_,_,_,_,_,_,_,_,_,_,_,_,rfl⟩
  ·by_cases h2:7<k
   ·go_wp2
    go_step3
    exact ⟨rfl,rfl,_,_,_,_,_,_,_,_,_,_,_,_,_,_,_,_,_,_,_,_,_,_,_,_,_,_,_,_,_,_,_,_,_,_,_,rfl⟩
   ·by_cases h3:t<0
    ·go_wp2
     go_step3
     exact ⟨rfl,rfl,_,_,_,_,_,_,_,_,_,_,_,_,_,_,_,_,_,_,_,_,_,_,_,_,_,_,_,_,_,_,_,_,_,_,_,rfl⟩
    ·have h4:200≤t:=by unfold MayB at hno;omega
     go_wp2
     go_step3
     exact ⟨rfl,rfl,_,_,_,_,_,_,_,_,_,_,_,_,_,_,_,_,_,_,_,_,_,_,_,_,_,_,_,_,_,_,_,_,_,_,_,rfl⟩
 ·rintro a' W ⟨rfl,u9,u10,u11,u12,u13,u14,u15,u16,u17,u18,u19,u20,u21,u22,u23,u24,u25,u26,u27,u28,u29,u30,u31,u32,u33,u34,u35,u36,u37,u38,u39,u40,u41,u42,u43,rfl⟩
  go_wp2
  simp only [Exit.jump]
  go_ret2
  exact ⟨rfl,hbel⟩
set_option maxRecDepth 100000 in
set_option maxHeartbeats 3200000 in
theorem seal_yes (l k:Int) (n:Nat) (C:Array Value) (bs:List Int) (w:World) (hl:0≤l∧l≤255) (hk:0≤k∧k≤7) (hn:n<200) (hC:C.toList=blkL k bs) (h56:bs.length=56) (hB:AllB bs) :
 Calls Tryz.prog 75 #[.int .u8 l,.int .i64 n,.agg C] w fun e w'=>∃ v,e=.returned (.tuple #[v,.bool true])∧w'.ownsRow w.heap.size 5 1 v 64 (Bs (sealB l k n bs))∧Below w.heap.size w w':=by
 have hblk:=heap_alloc_new w (Obj.cells C 71)
 have c0:=blk_kind hblk hC
 have hby:=byt_body hblk hC
 have hbel:Below w.heap.size w (w.alloc (Obj.cells C 71)):=(Below.refl _ _).alloc (Nat.le_refl _) _
 obtain ⟨i0,hi,hz0,hz1,hz2⟩:=info_parts info5
 have hmk:=fun w:World=>run_make (P:=Tryz.prog) w 48 5 i0 _ Tryz.underlying48 hi hz0 .i64 .i64 0 64 (by omega) (by omega) (by rw [hz2];omega) (by omega)
 generalize hM:madeCells (Value.int .u8 0).cells ((64:Int).toNat*i0.size)=M at hmk
 have HM:Hid (M.size=64*1):=by rw [← hM,size_madeCells,hz1];unfold Hid;simp
 rw [show ((64:Int)).toNat=64 by omega,show ((0:Int)).toNat=0 by omega] at hmk
 have HBL:=Lib.hid hblk
 have HBY:=Lib.hid hby
 have hwk:IntKind.u8.wrap k=k:=IntWalk.u8_in _ (by omega)
 have hwn:IntKind.u32.wrap (n:Int)=n:=IntWalk.u32_in _ (by omega)
 have HB:=Lib.hid (headB_allB (t:=n) hl hk hB)
 have HLH:=Lib.hid (headB_length (l:=l) (k:=k) (t:=n) h56)
 have HSV:=Lib.hid (sumV_lt (headB l k n bs))
 have H56:=Lib.hid h56
 have hg0:w.heap.size<(w.alloc (Obj.cells C 71)).heap.size:=by rw [size_alloc'];omega
 clear hblk hC hby hM hi hz0 hz1 hz2
 go_enter Tryz.func75,Tryz.ntmps75
 go_wp2
 have hk0:¬ k<0:=by omega
 have hk7:¬ 7<k:=by omega
 have hd1:decide ((n:Int)<0)=false:=decide_eq_false (by omega)
 have hd2:decide (200≤(n:Int))=false:=decide_eq_false (by omega)
 generalize w.alloc (Obj.cells C 71)=W0 at *
 have own0:=World.ownsRow_made (e:=5) (size:=1) W0 M 64 (Nat.le_refl W0.heap.size) (by simp only [maxLen];omega) HM.out
 have B0:Below W0.heap.size W0 (W0.alloc (Obj.cells M 5)):=(Below.refl _ _).alloc (Nat.le_refl _) _
 refine wp_scope1e (fun _ _=>False) (fun _ _=>0) rfl ?_ (fun _ _ h=>h.elim)
 intro _
 go_wp2_with (first
  | (at_builtin
     refine wpList_app_byt _ rfl (.tmp 24) (.tmp 29) rfl W0.heap.size _ 0 [] rfl (own0.alloc _) (some ⟨(W0.alloc (Obj.cells M 5)).heap.size,0,none⟩) 2 2 [k,l] (by rw [size_alloc'];rfl) (byt_blk (heap_alloc_new _ _) rfl) rfl (by omega) ((B0.alloc B0.size _).size) ?_
     intro v1 w1 h1 hg1 _
     have B1:Below W0.heap.size W0 w1:=(B0.alloc B0.size _).grown hg1 (B0.alloc B0.size _).size (fun j hj=>(own0.lt j hj).1)
     have own1:w1.ownsRow W0.heap.size 5 1 v1 2 (Bs [k,l]):=h1
     clear h1 hg1 own0 B0))
 refine (number_any w1 W0.heap.size v1 2 [k,l] n 2 own1 B1.size (by omega) (by omega) (by omega)).mono ?_
 rintro e w2 ⟨v2,rfl,own2,hb2⟩
 have B2:=B1.trans hb2
 clear own1 B1 hb2
 go_wp2_with (first
  | (at_builtin
     refine wpList_app_byt _ rfl (.tmp 35) (.tmp 37) rfl W0.heap.size v2 4 _ rfl own2 (some ⟨w.heap.size,1,none⟩) 56 56 bs rfl (HBY.out.keep B2) H56.out (by omega) B2.size ?_
     intro v3 w3 h3 hg3 _
     have B3:Below W0.heap.size W0 w3:=B2.grown hg3 B2.size (fun j hj=>(own2.lt j hj).1)
     have own3:w3.ownsRow W0.heap.size 5 1 v3 60 (Bs (headB l k n bs)):=h3
     clear h3 hg3 own2 B2))
 obtain ⟨A3,d3,rfl,hle3,hd3,hy3⟩:=byt_own own3 HLH.out
 rw [HLH.out] at own3 hle3 ⊢
 refine (sum_any A3 (headB l k n bs) 60 d3 w3 HLH.out (by omega) HB.out hy3).mono ?_
 rintro e w4 ⟨rfl,rfl⟩
 have HY3:=Lib.hid hy3
 have HSE:Hid (sealB l k n bs=headB l k n bs++be (sumV (headB l k n bs)) 4):=Lib.hid rfl
 clear hy3
 generalize sumV (headB l k n bs)=sv at *
 go_wp2_with fail
 refine (number_any w3 W0.heap.size _ 60 (headB l k n bs) sv 4 own3 B3.size (by omega) (by omega) HSV.out).mono ?_
 rintro e w4 ⟨v4,rfl,own4,hb4⟩
 go_wp2_with fail
 try simp only [Exit.jump]
 go_ret2
 exact ⟨v4,rfl,by rw [HSE.out];exact own4.mono (Nat.le_of_lt hg0),hbel.trans ((B3.trans hb4).mono (Nat.le_of_lt hg0))⟩
theorem blk_row {W:World} {g:Nat} {C:Array Value} {t:TypeId} {fr:Nat × Nat} {xs:List Int} (h:W.heap[g]?=some (.cells C t fr)) (hc:C.toList=Bs xs):∀ j u,(Bs xs)[j]?=some u→W.cell? ((⟨g,0,none⟩:Addr).add j)=some u:=by
 intro j u hj
 rw [add_at,cell_of_row _ _ _ _ _ _ h,← Array.getElem?_toList,hc];exact hj
theorem run_app_full (w:World) (ty:TypeId) (g n:Nat) (xs:List Int) (hx:∀ j u,(Bs xs)[j]?=some u→w.cell? ((⟨g,0,none⟩:Addr).add j)=some u) (hn:xs.length=n) (A:Option Addr) (m c:Nat) (ys:List Int) (hy:Byt w A ys) (hm:ys.length=m)
 (h0:0<m) (h63:n+m≤1000000) :
 ∃ v' w',(Builtin.append_ #[48,48] ty #[.slice (some ⟨g,0,none⟩) n n,.slice A m c]).run Tryz.prog w=.ok v' w'∧(∀ base,base≤w.heap.size→w'.ownsRow base 5 1 v' (n+m) (Bs (xs++ys)))∧w.grownBy w' none:=by
 obtain ⟨i0,hi,hz0,hz1,hz2⟩:=info_parts info5
 have hA:∃ a,A=some a:=by
  cases ys with
  | nil=>simp at hm;omega
  | cons y l=>obtain ⟨a,e,_⟩:=hy 0 y rfl;exact ⟨a,e⟩
 obtain ⟨a,rfl⟩:=hA
 have hnews:∀ j u,(Bs ys)[j]?=some u→w.cell? (a.add j)=some u:=fun j u hj=>by
  unfold Bs at hj
  rw [List.getElem?_map] at hj
  obtain ⟨x,hx,rfl⟩:=Option.map_eq_some_iff.1 hj
  obtain ⟨a',e,hc⟩:=hy j x hx
  injection e with e;subst e;exact hc
 have hge:=grownCap_ge w (n+m) n 5
 have hcm:grownCap w (n+m) n 5≤maxLen:=grownCap_le_maxLen w (n+m) n _ (by simp only [maxLen];omega)
 have hr:=run_append_grow (P:=Tryz.prog) w 48 ty 5 i0 (.int .u8 0) Tryz.underlying48 hi hz0 ⟨g,0,none⟩ n n (Bs xs) (by rw [Bs_length,hz1];omega) hx a m c (Bs ys) (by rw [Bs_length,hz1];omega) hnews (by omega) (by omega)
  (by rw [hz2];have:=nextslicecap_le (show n<n+m by omega);omega)
 have hlen:(Bs (xs++ys)).length=(n+m)*1:=by rw [Bs_length,List.length_append];omega
 refine ⟨_,_,hr,fun base hb=>⟨hlen,.inr ⟨w.heap.size,_,_,rfl,hb,heap_alloc_new w.drew _,hge,hcm,?_,?_⟩⟩,⟨rfl,rfl,rfl,by simp,fun k hk _=>heap_alloc_old w.drew _ hk⟩⟩
 ·simp only [Array.size_append,List.size_toArray,size_zeroCells,Bs_length,hn,hm]
  show n+m+(_-(n+m))*1=_*1
  omega
 ·simp only [Array.toList_append,List.append_assoc]
  rw [← List.append_assoc,← hlen,Bs_append]
  exact List.take_left
theorem wp_app_full (w:World) {o:Oper} {a:Act} {K:Act→World→Prop} {Q:Exit→Act→World→Prop} (s x:Operand)
 (ho:o.op=.call { callee:=.builtin .append,args:=#[s,x],argTypes:=#[48,48] })
 (g n:Nat) (xs:List Int) (hs:a.eval s=.slice (some ⟨g,0,none⟩) n n) (hx:∀ j u,(Bs xs)[j]?=some u→w.cell? ((⟨g,0,none⟩:Addr).add j)=some u) (hn:xs.length=n) (A:Option Addr) (m c:Nat) (ys:List Int) (hv:a.eval x=.slice A m c) (hy:Byt w A ys) (hm:ys.length=m)
 (h0:0<m) (h63:n+m≤1000000)
 (h:∀ v' w',(∀ base,base≤w.heap.size→w'.ownsRow base 5 1 v' (n+m) (Bs (xs++ys)))→w.grownBy w' none→K (a.put o.dst v') w'):o.wp Tryz.prog a w K Q:=by
 obtain ⟨v',w',hr,h2,h3⟩:=run_app_full w o.type g n xs hx hn A m c ys hy hm h0 h63
 unfold Oper.wp execOp
 simp only [ho,resolve,invoke,builtin,Sem.run_bind,Sem.run_pure,Result.andThen_ok,List.map_toArray,List.map_cons,List.map_nil,hs,hv,hr]
 exact h v' w' h2 h3
def VS3 (p B n:Nat) (k l:Int) (i:Nat) (v:Value) (w:World):Prop :=
 match i with
 | 0=>v=.pointer (some ⟨p,0,none⟩)
 | 1=>v=.int .i64 k
 | 2=>v=.int .u8 k
 | 3=>v=.int .u8 l
 | 5=>v=.int .i64 n
 | 6=>v=.int .u64 n
 | 4=>∃ g,v=.slice (some ⟨g,0,none⟩) 2 2∧w.heap[g]?=some (.cells #[.int .u8 k,.int .u8 l] 5 (0,0))
 | 7=>w.ownsRow B 5 1 v 2 (Bs (be n 2))
 | 8=>w.ownsRow B 5 1 v 4 (Bs ([k,l]++be n 2))
 | _=>True
theorem VS3.on {p B n:Nat} {k l:Int} {j:Nat} {v:Value} {w w':World} (h:VS3 p B n k l j v w) (hg:w.grownBy w' none):VS3 p B n k l j v w':=by
 unfold VS3 at *
 split <;> try exact h
 ·obtain ⟨g,e,h1⟩:=h
  exact ⟨g,e,by rw [hg.block g (room_lt h1) (by simp)];exact h1⟩
 ·exact World.ownsRow.kept (row:=none) h hg (by cases v.ownBlock <;> simp)
 ·exact World.ownsRow.kept (row:=none) h hg (by cases v.ownBlock <;> simp)
 ·trivial
theorem run_app_none (w:World) (ty:TypeId) (A:Option Addr) (n c:Nat) (hc:n≤c) :
 (Builtin.append_ #[48,3] ty #[.slice A n c,.int .i64 0]).run Tryz.prog w=.ok (.slice A n c) w:=by
 obtain ⟨i0,hi,hz0,hz1,hz2⟩:=info_parts info5
 have hw:IntKind.i64.wrap 0=0:=rfl
 rcases A with _ | a
 ·simp [Builtin.append_,run_underlying Tryz.underlying48,run_underlying Tryz.underlying3,sizeOf,typeInfo,hi,asInt,asIntOf,hw,hc]
 ·simp [Builtin.append_,run_underlying Tryz.underlying48,run_underlying Tryz.underlying3,sizeOf,typeInfo,hi,asInt,asIntOf,hw,hc,storeCells]
theorem wpList_app_none (w:World) {ops:Array Oper} {rest:List Oper} {o:Oper} {a:Act} {Q:Exit→Act→World→Prop} (hgd:o.guard=none) (s x:Operand)
 (ho:o.op=.call { callee:=.builtin .append,args:=#[s,x],argTypes:=#[48,3] })
 (A:Option Addr) (n c:Nat) (hs:a.eval s=.slice A n c) (hx:a.eval x=.int .i64 0) (hc:n≤c)
 (h:wpList Tryz.prog ops Q rest (a.put o.dst (.slice A n c)) w):wpList Tryz.prog ops Q (o :: rest) a w :=
 wpList_plain hgd fun _ hK=>by
  unfold Oper.wp execOp
  simp only [ho,resolve,invoke,builtin,Sem.run_bind,Sem.run_pure,Result.andThen_ok,List.map_toArray,List.map_cons,List.map_nil,hs,hx,run_app_none w o.type A n c hc]
  exact hK _ _ h
set_option maxRecDepth 100000 in
set_option maxHeartbeats 1600000 in
theorem filled_any (A:Option Addr) (xs:List Int) (c:Nat) (w:World) (hn:xs.length=60) (hB:AllB xs) (hy:Byt w A xs) :
 Calls Tryz.prog 82 #[.slice A 60 c] w fun e w'=>∃ v,e=.returned v∧w'.ownsRow w.heap.size 5 1 v 64 (Bs (xs++be (sumV xs) 4))∧Below w.heap.size w w':=by
 have HY:=Lib.hid hy
 have HN:=Lib.hid hn
 have HB:=Lib.hid hB
 have own0:=own_new w w.heap.size 5 0 #[] [] (Nat.le_refl _) rfl (by decide) rfl
 have B0:Below w.heap.size w (w.alloc (Obj.cells #[] 5)):=(Below.refl _ _).alloc (Nat.le_refl _) _
 clear hy hn hB
 go_enter Tryz.func82,Tryz.ntmps82
 go_wp2_with (first
  | (at_builtin
     refine wpList_app_byt _ rfl (.tmp 4) (.tmp 5) rfl w.heap.size _ 0 [] rfl own0 A 60 c xs rfl (HY.out.alloc _) HN.out (by omega) B0.size ?_
     intro v1 w1 h1 hg1 _
     have B1:Below w.heap.size w w1:=B0.grown hg1 B0.size (fun j hj=>(own0.lt j hj).1)
     have own1:w1.ownsRow w.heap.size 5 1 v1 60 (Bs xs):=h1
     obtain ⟨A1,d1,rfl,hle1,hd1,hy1⟩:=byt_own own1 HN.out
     rw [HN.out]
     rw [HN.out] at own1 hle1
     have HY1:=Lib.hid hy1
     clear h1 hg1 own0 B0 hy1)
  | (at_builtin
     refine wpList_app_none _ rfl (.tmp 6) (.tmp 9) rfl A1 60 d1 rfl rfl hle1 ?_))
 refine (rsum_any A1 xs 60 d1 w1 HN.out (by omega) HB.out HY1.out).mono ?_
 rintro e w2 ⟨rfl,rfl⟩
 have hsv:=sumV_lt xs
 generalize hq:sumV xs=sv at *
 have HQ:=Lib.hid hq
 clear hq
 have hwn:IntKind.u64.wrap (sv:Int)=sv:=IntWalk.u64_in _ (by omega)
 go_wp2_with fail
 refine (high1_any sv 4 w1 (by omega) (by omega)).mono ?_
 rintro e w2 ⟨v2,rfl,own2,hb2⟩
 obtain ⟨A2,d2,rfl,hle2,hd2,hy2⟩:=byt_own own2 (be_length sv 4)
 rw [be_length] at own2 ⊢
 have HY2:=Lib.hid hy2
 have own1':=ownB own1 hb2
 clear hy2
 go_wp2_with (first
  | (at_builtin
     refine wpList_app_byt _ rfl (.tmp 11) (.tmp 15) rfl w.heap.size _ 60 xs rfl own1' A2 4 d2 (be sv 4) rfl HY2.out (be_length _ _) (by omega) (keepB B1 hb2).size ?_
     intro v3 w3 h3 hg3 _
     have B3:Below w.heap.size w w3:=(keepB B1 hb2).grown hg3 (keepB B1 hb2).size (fun j hj=>(own1'.lt j hj).1)
     have H3:=Lib.hid h3
     clear h3 hg3))
 go_ret
 exact ⟨v3,rfl,by rw [HQ.out];exact H3.out,B3⟩
set_option maxRecDepth 100000 in
set_option maxHeartbeats 3200000 in
theorem rseal_yes (l k:Int) (n:Nat) (C:Array Value) (bs:List Int) (w:World) (hl:0≤l∧l≤255) (hk:0≤k∧k≤7) (hn:n<200) (hC:C.toList=blkL k bs) (h56:bs.length=56) (hB:AllB bs) :
 Calls Tryz.prog 39 #[.int .u8 l,.int .i64 n,.agg C] w fun e w'=>∃ v,e=.returned (.tuple #[v,.bool true])∧w'.ownsRow w.heap.size 5 1 v 64 (Bs (sealB l k n bs))∧Below w.heap.size w w':=by
 have hblk:=heap_alloc_new w (Obj.cells C 71)
 have c0:=blk_kind hblk hC
 have hby:=byt_body hblk hC
 have hbel:Below w.heap.size w (w.alloc (Obj.cells C 71)):=(Below.refl _ _).alloc (Nat.le_refl _) _
 have HK:=Lib.hid c0
 have HBY:=Lib.hid hby
 have hwk:IntKind.u8.wrap k=k:=IntWalk.u8_in _ (by omega)
 have hwn:IntKind.u64.wrap (n:Int)=n:=IntWalk.u64_in _ (by omega)
 have H56:=Lib.hid h56
 have hg0:w.heap.size<(w.alloc (Obj.cells C 71)).heap.size:=by rw [size_alloc'];omega
 clear hblk hC hby
 have hk0:¬ k<0:=by omega
 have hk7:¬ 7<k:=by omega
 have hd1:decide ((n:Int)<0)=false:=decide_eq_false (by omega)
 have hd2:decide (200≤(n:Int))=false:=decide_eq_false (by omega)
 go_enter Tryz.func39,Tryz.ntmps39
 go_upto_region 3 with fail
 generalize w.alloc (Obj.cells C 71)=W1 at *
 go_cut [8] (fun s wx=>wx.ownsRow W1.heap.size 5 1 s 4 (Bs ([k,l]++be n 2))∧Below W1.heap.size W1 wx)
 case first =>
  have grefl:∀ W:World,W.grownBy W none:=fun W=>World.grownBy.refl W _
  refine wp_region_rg (VS3 w.heap.size W1.heap.size n k l) (Below W1.heap.size W1) (fun w w'=>w.grownBy w' none) (by kernel_rfl) (by kernel_rfl) (fun j v w w' h hg=>h.on hg) ((Below.refl _ _).drew) ?_
  simp only [RAll]
  refine ⟨?_,?_,?_,?_,?_,?_,?_,?_,?_,?_⟩
  ·refine RStep.of rfl fun T W hag hJ hd=>?_
   have e5:T.getD 5 undef=_:=(agree_at hag 5 (by kernel_rfl)).trans rfl
   clear hag hd
   go_simp
   exact ⟨_,rfl,rfl⟩
  ·refine RStep.of rfl fun T W hag hJ hd=>?_
   have d25:T.getD 25 undef=_:=hd ⟨0,.data⟩ (by simp) rfl _ rfl
   have fct0:=keepC hJ HK.out
   clear hag hd
   go_simp
   exact ⟨_,rfl,rfl⟩
  ·refine RStep.of rfl fun T W hag hJ hd=>?_
   have d26:T.getD 26 undef=_:=hd ⟨1,.data⟩ (by simp) rfl _ rfl
   clear hag hd
   go_simp
   exact ⟨_,rfl,rfl⟩
  ·refine RStep.of rfl fun T W hag hJ hd=>?_
   have e0:T.getD 0 undef=_:=(agree_at hag 0 (by kernel_rfl)).trans rfl
   clear hag hd
   go_simp
   exact ⟨_,rfl,rfl⟩
  ·refine RStep.of rfl fun T W hag hJ hd=>?_
   have d27:T.getD 27 undef=_:=hd ⟨2,.data⟩ (by simp) rfl _ rfl
   have d28:T.getD 28 undef=_:=hd ⟨3,.data⟩ (by simp) rfl _ rfl
   rw [Array.getD_eq_getD_getElem?] at d27 d28
   clear hag hd
   go_simp
   refine ⟨_,rfl,⟨W.heap.size,rfl,heap_alloc_new W _⟩,hJ.alloc hJ.size _,World.grownBy_alloc W _ _⟩
  ·refine RStep.of rfl fun T W hag hJ hd=>?_
   have e1:T.getD 1 undef=_:=(agree_at hag 1 (by kernel_rfl)).trans rfl
   clear hag hd
   go_simp
   exact ⟨_,rfl,rfl⟩
  ·refine RStep.of rfl fun T W hag hJ hd=>?_
   have d30:T.getD 30 undef=_:=hd ⟨5,.data⟩ (by simp) rfl _ rfl
   clear hag hd
   go_simp
   exact ⟨_,rfl,rfl⟩
  ·refine RStep.of rfl fun T W hag hJ hd=>?_
   have d31:T.getD 31 undef=_:=hd ⟨6,.data⟩ (by simp) rfl _ rfl
   clear hag hd
   go_simp
   refine (high1_any n 2 W (by omega) (by omega)).mono ?_;rintro e w' ⟨v',rfl,hown,hb⟩
   exact ⟨_,rfl,hown.mono hJ.size,hJ.trans (hb.mono hJ.size),growN hb⟩
  ·refine RStep.of rfl fun T W hag hJ hd=>?_
   have x29:=hd ⟨4,.data⟩ (by simp) rfl _ rfl
   have x32:=hd ⟨7,.data⟩ (by simp) rfl _ rfl
   obtain ⟨g,(e29:T.getD 29 undef=_),hg⟩:=x29
   have x32':W.ownsRow W1.heap.size 5 1 (T.getD 32 undef) 2 (Bs (be n 2)):=x32
   obtain ⟨A2,d2,e32,hle2,hd2,hy2⟩:=byt_own x32' (be_length n 2)
   rw [be_length] at e32
   refine wp_app_full W (.tmp 29) (.tmp 32) rfl g 2 [k,l] e29 (blk_row hg rfl) rfl A2 2 d2 (be n 2) e32 hy2 (be_length _ _) (by omega) (by omega) ?_
   intro v' w' h1 h2
   exact ⟨_,rfl,h1 _ hJ.size,hJ.grown h2 hJ.size (fun j hj=>by cases hj),h2⟩
  ·refine RLast.of rfl fun T W hag hJ hd=>?_
   have x33:W.ownsRow W1.heap.size 5 1 (T.getD 33 undef) 4 (Bs ([k,l]++be n 2)):=hd 8 _ (by simp) rfl
   obtain ⟨f,hf,hT⟩:=agree_fn hag
   have h33:=hf 33
   rw [← h33] at x33
   have HX:=Lib.hid x33
   have HJ:=Lib.hid hJ
   clear hag hd x33 h33 hJ hf
   rw [hT]
   clear hT
   simp only [List.filterMap_cons,List.filterMap_nil,List.foldl_cons,List.foldl_nil,List.setIfInBounds_toArray,List.set_cons_succ,List.set_cons_zero]
   rename_i hJc hKc
   go_wp2_with fail
   refine hJc _ _ ?_
   repeat apply Exists.intro
   exact ⟨⟨HX.out,HJ.out⟩,rfl⟩
 case rest =>
  obtain ⟨own1,B1⟩:=hcut
  go_wp2_with (first
   | (at_builtin
      refine wpList_app_byt _ rfl (.tmp 34) (.tmp 36) rfl W1.heap.size _ 4 _ rfl own1 (some ⟨w.heap.size,1,none⟩) 56 56 bs rfl (HBY.out.keep B1) H56.out (by omega) B1.size ?_
      intro v3 w3 h3 hg3 _
      have B3:Below W1.heap.size W1 w3:=B1.grown hg3 B1.size (fun j hj=>(own1.lt j hj).1)
      have own3:w3.ownsRow W1.heap.size 5 1 v3 60 (Bs (headB l k n bs)):=h3
      clear h3 hg3 own1 B1))
  obtain ⟨A3,d3,rfl,hle3,hd3,hy3⟩:=byt_own own3 (headB_length H56.out)
  rw [headB_length H56.out]
  refine (filled_any A3 (headB l k n bs) d3 w3 (headB_length H56.out) (headB_allB hl hk hB) hy3).mono ?_
  rintro e w4 ⟨v4,rfl,own4,hb4⟩
  go_wp2_with fail
  go_ret2
  exact ⟨v4,rfl,own4.mono (Nat.le_trans (Nat.le_of_lt hg0) B3.size),hbel.trans ((B3.trans (hb4.mono B3.size)).mono (Nat.le_of_lt hg0))⟩
theorem rseal_no (l k t:Int) (C:Array Value) (bs:List Int) (w:World) (hl:0≤l∧l≤255) (hk:i64 k) (ht:i64 t) (hC:C.toList=blkL k bs) (hno:¬ MayB k t) :
 Calls Tryz.prog 39 #[.int .u8 l,.int .i64 t,.agg C] w fun e w'=>e=.returned (.tuple #[.slice none 0 0,.bool false])∧Below w.heap.size w w':=by
 have hblk:=heap_alloc_new w (Obj.cells C 71)
 have c0:=blk_kind hblk hC
 have hbel:Below w.heap.size w (w.alloc (Obj.cells C 71)):=(Below.refl _ _).alloc (Nat.le_refl _) _
 have HC:=Lib.hid hC
 clear hblk hC
 by_cases h1:k<0
 ·go_enter Tryz.func39,Tryz.ntmps39
  go_wp2
  go_ret2
  exact ⟨rfl,hbel⟩
 ·by_cases h2:7<k
  ·go_enter Tryz.func39,Tryz.ntmps39
   go_wp2
   go_ret2
   exact ⟨rfl,hbel⟩
  ·by_cases h3:t<0
   ·go_enter Tryz.func39,Tryz.ntmps39
    go_wp2
    go_ret2
    exact ⟨rfl,hbel⟩
   ·have h4:200≤t:=by unfold MayB at hno;omega
    go_enter Tryz.func39,Tryz.ntmps39
    go_wp2
    go_ret2
    exact ⟨rfl,hbel⟩
def zBs:List Int:=List.replicate 56 0
def blkA (k:Int) (bs:List Int):Array Value:=(blkL k bs).toArray
theorem blkA_list (k:Int) (bs:List Int):(blkA k bs).toList=blkL k bs:=by unfold blkA;simp
theorem blkA_size {k:Int} {bs:List Int} (h:bs.length=56):(blkA k bs).size=57:=by unfold blkA blkL;simp [Bs_length,h]
theorem blkA_one (k:Int) (bs:List Int):(blkA k bs).all (·.oneCell')=true:=by
 refine Array.all_eq_true_iff_forall_mem.2 fun v hv=>?_
 unfold blkA blkL at hv
 simp only [List.mem_toArray,List.mem_cons] at hv
 rcases hv with rfl | hv
 ·rfl
 ·exact Bs_one bs v hv
theorem zBs_len:zBs.length=56:=by unfold zBs;simp
theorem info24:(Tryz.prog.info? 71).map (fun i=>(i.zero,i.size,i.bytes))=some (some (.agg (blkA 0 zBs)),57,64):=by kernel_rfl
theorem size24b:(Tryz.prog.info? 71).map (·.size)=some 57:=by kernel_rfl
theorem built24:Tryz.prog.built 71 []=some (blkA 0 zBs):=by kernel_rfl
section
variable {ops:Array Oper} {rest:List Oper} {o:Oper} {a:Act} {w:World} {Q:Exit→Act→World→Prop}
theorem wpList_allocB (hgd:o.guard=none) (ho:o.op=.alloc 71)
 (h:wpList Tryz.prog ops Q rest (a.put o.dst (.pointer (some ⟨w.heap.size,0,none⟩))) (w.alloc (.cells (blkA 0 zBs) 71))):wpList Tryz.prog ops Q (o :: rest) a w:=by
 obtain ⟨i0,hi,hz0,hz1,hz2⟩:=info_parts info24
 exact wpList_plain hgd fun _ hK=>wp_alloc_of 71 ho i0 _ hi hz0 (hK _ _ h)
theorem wpList_buildB0 (hgd:o.guard=none) (ho:o.op=.build 71 #[])
 (h:wpList Tryz.prog ops Q rest (a.put o.dst (.agg (blkA 0 zBs))) w):wpList Tryz.prog ops Q (o :: rest) a w :=
 wpList_plain hgd fun _ hK=>by
  unfold Oper.wp execOp
  have hb:=run_build (P:=Tryz.prog) w 71 #[] _ built24
  simp only [ho,List.map_toArray,List.map_nil,Sem.run_bind,hb,Result.andThen_ok]
  exact hK _ _ h
theorem wpList_loadB (hgd:o.guard=none) (x:Operand) (ho:o.op=.load 71 x) (g:Nat) (hx:a.eval x=.pointer (some ⟨g,0,none⟩)) (k:Int) (bs:List Int) (h56:bs.length=56) (hg:w.heap[g]?=some (.cells (blkA k bs) 71 (0,0)))
 (h:wpList Tryz.prog ops Q rest (a.put o.dst (.agg (blkA k bs))) w):wpList Tryz.prog ops Q (o :: rest) a w :=
 wpList_load_row hgd 71 x ho g hx _ _ _ _ hg Tryz.underlying71 rfl (by rw [blkA_size h56];exact size24b) h
theorem wpList_storeB (hgd:o.guard=none) (x y:Operand) (ho:o.op=.store 71 x y) (g:Nat) (hx:a.eval x=.pointer (some ⟨g,0,none⟩)) (k j:Int) (bs cs:List Int) (hy:a.eval y=.agg (blkA k bs)) (h56:bs.length=56) (h56':cs.length=56) (hg:w.heap[g]?=some (.cells (blkA j cs) 71 (0,0)))
 (h:wpList Tryz.prog ops Q rest (a.put o.dst undef) (w.setRow g (blkA k bs))):wpList Tryz.prog ops Q (o :: rest) a w :=
 wpList_store_row hgd 71 x y ho g _ hx hy _ _ hg (by rw [blkA_size h56];exact size24b) (by rw [blkA_size h56,blkA_size h56']) (blkA_one _ _) h
theorem run_copyB (w:World) (ty:TypeId) (g:Nat) (k:Int) (bs ys:List Int) (hg:w.heap[g]?=some (.cells (blkA k bs) 71 (0,0))) (hb:bs.length=56) (ad:Addr) (m c:Nat) (hm:56≤m) (hy:ys.length=56) (hsrc:Byt w (some ad) ys) :
 (Builtin.copy_ #[48,48] ty #[.slice (some ⟨g,1,none⟩) 56 56,.slice (some ad) m c]).run Tryz.prog w=.ok (goInt 56) (w.setRow g (blkA k ys)):=by
 obtain ⟨i0,hi,hz0,hz1,hz2⟩:=info_parts info5
 have h:=run_copy_row Tryz.prog w 48 48 ty 5 g 1 56 56 ad m c (blkA k bs) 71 (Bs ys) Tryz.underlying48 (by rw [hi];simp [hz1]) hg (by rw [Bs_length,hy];simp [Nat.min_def];omega)
  (fun j v hj=>by
    unfold Bs at hj
    rw [List.getElem?_map] at hj
    obtain ⟨x,hx,rfl⟩:=Option.map_eq_some_iff.1 hj
    obtain ⟨a',e,hc⟩:=hsrc j x hx
    injection e with e;subst e;exact hc) (by rw [Bs_length,blkA_size hb,hy];decide) (Bs_one _)
 rw [h,Bs_length,hy]
 congr 2
 rw [blkA_list]
 have e:(blkL k bs).drop (1+56)=[]:=List.drop_of_length_le (by unfold blkL;simp [Bs_length,hb])
 rw [e]
 unfold blkA blkL
 simp
theorem wpList_copyB (hgd:o.guard=none) (s x:Operand) (ho:o.op=.call { callee:=.builtin .copy,args:=#[s,x],argTypes:=#[48,48] })
 (g:Nat) (k:Int) (bs ys:List Int) (hs:a.eval s=.slice (some ⟨g,1,none⟩) 56 56) (hg:w.heap[g]?=some (.cells (blkA k bs) 71 (0,0))) (hb:bs.length=56) (ad:Addr) (m c:Nat) (hx:a.eval x=.slice (some ad) m c) (hm:56≤m) (hy:ys.length=56) (hsrc:Byt w (some ad) ys)
 (h:wpList Tryz.prog ops Q rest (a.put o.dst (goInt 56)) (w.setRow g (blkA k ys))):wpList Tryz.prog ops Q (o :: rest) a w :=
 wpList_plain hgd fun _ hK=>by
  unfold Oper.wp execOp
  simp only [ho,resolve,invoke,builtin,Sem.run_bind,Sem.run_pure,Result.andThen_ok,List.map_toArray,List.map_cons,List.map_nil,hs,hx,run_copyB w o.type g k bs ys hg hb ad m c hm hy hsrc]
  exact hK _ _ h
end
theorem results_blk {fn:Func} {p u:Tmp} (h:fn.results=#[.cell p 71,.tmp u]) (tmps:Array Value) (w:World) (g:Nat) (k:Int) (bs:List Int) (hp:tmps.getD p undef=.pointer (some ⟨g,0,none⟩)) (h56:bs.length=56) (hg:w.heap[g]?=some (.cells (blkA k bs) 71 (0,0))) :
 (results fn tmps).run Tryz.prog w=.ok (.tuple #[.agg (blkA k bs),tmps.getD u undef]) w:=by
 rw [results_cell_tmp h,hp]
 simp only [asAddr,Sem.run_pure,Result.andThen_ok]
 rw [run_loadVar_row w g _ _ _ _ _ hg Tryz.underlying71 rfl (by rw [blkA_size h56];exact size24b)]
 rfl
theorem equal_any (A B:Option Addr) (xs ys:List Int) (n m c d:Nat) (w:World) (hn:xs.length=n) (hm:ys.length=m) (hx:AllB xs) (hy:AllB ys) (bx:Byt w A xs) (by_:Byt w B ys) :
 Calls Tryz.prog 108 #[.slice A n c,.slice B m d] w fun e w'=>e=.returned (.bool (decide (xs=ys)))∧w=w':=by
 have h1:=conv_any (c:=c) bx hn
 have h2:=conv_any (c:=d) by_ hm
 have HB:=Lib.hid (str_beq hx hy)
 clear bx by_ hn hm
 generalize strOfNums xs=s1 at *
 generalize strOfNums ys=s2 at *
 go_enter Tryz.func108,Tryz.ntmps108
 go_wp2
 go_ret
 exact ⟨ret_bool HB.out,rfl⟩
def opK (xs:List Int):Int:=xs.getD 0 0
def opBs (xs:List Int):List Int:=(xs.drop 4).take 56
def Opens (l t:Int) (xs:List Int):Prop:=xs.length=64∧MayB (opK xs) t∧sealB l (opK xs) t.toNat (opBs xs)=xs
instance (l t:Int) (xs:List Int):Decidable (Opens l t xs):=by unfold Opens;infer_instance
def openA (l t:Int) (xs:List Int):Array Value:=if Opens l t xs then blkA (opK xs) (opBs xs) else blkA 0 zBs
theorem opBs_len {xs:List Int} (h:xs.length=64):(opBs xs).length=56:=by unfold opBs;simp [h]
theorem opBs_allB {xs:List Int} (h:AllB xs):AllB (opBs xs):=fun x hx=>h x (List.mem_of_mem_drop (List.mem_of_mem_take hx))
theorem setRow_blk {w:World} {g:Nat} {C D:Array Value} {t:TypeId} {fr:Nat × Nat} (h:w.heap[g]?=some (.cells C t fr)):(w.setRow g D).heap[g]?=some (.cells D t fr):=setRow_heap w g C D t fr h
theorem below_setRow {B g:Nat} {w W:World} (h:Below B w W) (hg:B≤g) (D:Array Value):Below B w (W.setRow g D) :=
 ⟨h.os,h.tape,h.output,by simpa using h.size,fun k hk=>by rw [setRow_other W g k D (by omega)];exact h.block k hk⟩
theorem blkA_set0 (x k:Int) (bs:List Int):(blkA k bs).setIfInBounds 0 (.int .i64 x)=blkA x bs:=by unfold blkA blkL;simp
set_option maxRecDepth 100000 in
set_option maxHeartbeats 3200000 in
theorem open_any (l t:Int) (A:Option Addr) (xs:List Int) (c:Nat) (w:World) (hl:0≤l∧l≤255) (ht:i64 t) (hc:xs.length≤c) (hc2:c≤9223372036854775807) (hB:AllB xs) (hy:Byt w A xs) :
 Calls Tryz.prog 111 #[.int .u8 l,.int .i64 t,.slice A xs.length c] w fun e w'=>e=.returned (.tuple #[.agg (openA l t xs),.bool (decide (Opens l t xs))])∧Below w.heap.size w w':=by
 have HY:=Lib.hid hy
 have HB:=Lib.hid hB
 have hm0:=heap_alloc_new w (Obj.cells (blkA 0 zBs) 71)
 have hbel0:Below w.heap.size w (w.alloc (Obj.cells (blkA 0 zBs) 71)):=(Below.refl _ _).alloc (Nat.le_refl _) _
 have hsz0:=size_alloc' w (Obj.cells (blkA 0 zBs) 71)
 clear hy hB
 generalize hn:xs.length=n at *
 have HN:=Lib.hid hn
 clear hn
 go_enter Tryz.func111,Tryz.ntmps111
 go_wp2_with (first
  | (refine wpList_allocB rfl rfl ?_))
 generalize w.alloc (Obj.cells (blkA 0 zBs) 71)=W1 at *
 have HM0:=Lib.hid hm0
 have hszW:W1.heap.size=w.heap.size+1:=hsz0
 have HY1:=Lib.hid (HY.out.keep hbel0)
 clear hm0
 refine wp_scope1e (fun a' w'=>Hid (Below w.heap.size w w'∧w'.heap[w.heap.size]?=some (.cells (blkA 0 zBs) 71 (0,0))∧¬ Opens l t xs)∧∃ u0 u1 u2 u3 u4 u5 u7 u8 u9 u10 u11 u12 u13 u14 u15 u16 u17 u18 u19 u20 u21 u22 u23 u24 u25 u26 u27 u28 u29 u30 u31 u32 u33 u34 u35 u36 u37 u38:Value,a'={ tmps:=#[u0,u1,u2,u3,u4,u5,.pointer (some ⟨w.heap.size,0,none⟩),u7,u8,u9,u10,u11,u12,u13,u14,u15,u16,u17,u18,u19,u20,u21,u22,u23,u24,u25,u26,u27,u28,u29,u30,u31,u32,u33,u34,u35,u36,u37,u38],defers:=[] }) (fun _ _=>0) rfl ?_ ?_
 ·intro _
  have HM2:=Lib.hid (heap_alloc_new W1 (Obj.cells (blkA 0 zBs) 71))
  have HM02:Hid ((W1.alloc (Obj.cells (blkA 0 zBs) 71)).heap[w.heap.size]?=some (.cells (blkA 0 zBs) 71 (0,0))):=by
   unfold Hid;rw [heap_alloc_old W1 _ (by omega)];exact HM0.out
  have HBL2:=Lib.hid (hbel0.alloc hbel0.size (Obj.cells (blkA 0 zBs) 71))
  by_cases h64:n=64
  ·subst h64
   obtain ⟨x0,hx0⟩:∃ x0,xs[0]?=some x0:=⟨_,List.getElem?_eq_getElem (by rw [HN.out];omega)⟩
   obtain ⟨ad,rfl,hc0⟩:=(HY1.out.alloc (Obj.cells (blkA 0 zBs) 71)) 0 x0 hx0
   have ea:ad.add 0=ad:=by unfold Addr.add;simp
   rw [ea] at hc0
   have hxb:=HB.out x0 (List.mem_of_getElem? hx0)
   have hk:opK xs=x0:=by unfold opK;rw [List.getD,hx0];rfl
   have HKX:=Lib.hid hk
   have cz:=blk_kind HM2.out (blkA_list 0 zBs)
   have fz:(W1.alloc (Obj.cells (blkA 0 zBs) 71)).frozen? ⟨W1.heap.size,0,none⟩=false:=blk_free HM2.out 0
   clear hx0 ea hk
   go_wp2_with (first
    | (refine wpList_allocB rfl rfl ?_))
   rw [blkA_set0,← hszW]
   have HM3:=Lib.hid (heap_alloc_new W1 (Obj.cells (blkA x0 zBs) 71))
   have HM03:Hid ((W1.alloc (Obj.cells (blkA x0 zBs) 71)).heap[w.heap.size]?=some (.cells (blkA 0 zBs) 71 (0,0))):=by
    unfold Hid;rw [heap_alloc_old W1 _ (by omega)];exact HM0.out
   have HBL3:=Lib.hid (hbel0.alloc hbel0.size (Obj.cells (blkA x0 zBs) 71))
   have HY3:=Lib.hid (HY1.out.alloc (Obj.cells (blkA x0 zBs) 71))
   rw [hszW] at HM3
   clear HM2 HM02 HBL2 cz fz hc0 hbel0 hszW
   generalize W1.alloc (Obj.cells (blkA x0 zBs) 71)=W2 at *
   go_still_tail 4,(by kernel_rfl)
   change wpList _ _ _ _ _ W2.drew
   rw [if_neg (show ¬ c=4 by omega)]
   have HM3':Hid (W2.drew.heap[w.heap.size+1]?=some (.cells (blkA x0 zBs) 71 (0,0))):=HM3
   have HM03':Hid (W2.drew.heap[w.heap.size]?=some (.cells (blkA 0 zBs) 71 (0,0))):=HM03
   have HBL3':Hid (Below w.heap.size w W2.drew):=HBL3.out.drew
   have HY3':Hid (Byt W2.drew (some ⟨ad.block,ad.off+4,none⟩) (opBs xs)):=fun i x hi=>by
    unfold opBs at hi
    have hi2:xs[4+i]?=some x:=by
     rw [List.getElem?_take] at hi
     split at hi
     ·rwa [List.getElem?_drop] at hi
     ·cases hi
    obtain ⟨ad',e,h⟩:=HY3.out _ _ hi2
    injection e with e;subst e
    refine ⟨_,rfl,?_⟩
    rw [add_off]
    rw [show 4+i=(3+i)+1 by omega,add_sum] at h
    rw [show ad.off+4+i=ad.off+(3+i+1) by omega]
    exact h
   clear HM3 HM03 HBL3 HY3
   generalize W2.drew=W3 at *
   have HM4:=Lib.hid (setRow_blk (D:=blkA x0 (opBs xs)) HM3'.out)
   have HM04:Hid ((W3.setRow (w.heap.size+1) (blkA x0 (opBs xs))).heap[w.heap.size]?=some (.cells (blkA 0 zBs) 71 (0,0))):=by
    unfold Hid;rw [setRow_other W3 _ _ _ (by omega)];exact HM03'.out
   have HBL4:=Lib.hid (below_setRow HBL3'.out (show w.heap.size≤w.heap.size+1 by omega) (blkA x0 (opBs xs)))
   have HY4:=Lib.hid (HY.out.keep HBL4.out)
   have h56:=opBs_len HN.out
   have H56:=Lib.hid h56
   refine wpList_copyB rfl (.tmp 20) (.tmp 22) rfl (w.heap.size+1) x0 zBs (opBs xs) rfl HM3'.out zBs_len ⟨ad.block,ad.off+4,none⟩ 60 (c-4) rfl (by omega) h56 HY3'.out ?_
   generalize W3.setRow (w.heap.size+1) (blkA x0 (opBs xs))=W4 at *
   clear HM3' HM03' HBL3' HY3'
   go_wp2_with (first
    | (refine wpList_loadB rfl (.tmp 8) rfl (w.heap.size+1) rfl x0 (opBs xs) H56.out HM4.out ?_))
   by_cases hmay:MayB x0 t
   ·obtain ⟨m,rfl⟩:∃ m:Nat,t=(m:Int):=⟨t.toNat,by unfold MayB at hmay;omega⟩
    refine (seal_yes l x0 m _ (opBs xs) W4 hl hmay.1 (by unfold MayB at hmay;omega) (blkA_list _ _) H56.out (opBs_allB HB.out)).mono ?_
    rintro e W5 ⟨v5,rfl,own5,hb5⟩
    obtain ⟨A5,d5,rfl,hle5,hd5,hy5⟩:=byt_own own5 (sealB_length H56.out)
    rw [sealB_length H56.out]
    have HE:=Lib.hid (equal_any A5 (some ad) (sealB l x0 m (opBs xs)) xs 64 64 d5 c W5 (sealB_length H56.out) HN.out (sealB_allB hl hmay.1 (opBs_allB HB.out)) HB.out hy5 (HY4.out.keep hb5))
    have HM5:Hid (W5.heap[w.heap.size+1]?=some (.cells (blkA x0 (opBs xs)) 71 (0,0))):=by
     unfold Hid;rw [hb5.block _ (room_lt HM4.out)];exact HM4.out
    have HM05:Hid (W5.heap[w.heap.size]?=some (.cells (blkA 0 zBs) 71 (0,0))):=by
     unfold Hid;rw [hb5.block _ (room_lt HM04.out)];exact HM04.out
    have HBL5:=Lib.hid (keepB HBL4.out hb5)
    have HMAY:=Lib.hid hmay
    clear own5 hy5 hb5 hmay
    go_wp2_with fail
    refine HE.out.mono ?_
    rintro e W6 ⟨rfl,rfl⟩
    by_cases hq:sealB l x0 m (opBs xs)=xs
    ·have hop:Opens l m xs:=⟨HN.out,by rw [HKX.out];exact HMAY.out,by rw [HKX.out,Int.toNat_natCast];exact hq⟩
     rw [decide_eq_true hq]
     have HOP:=Lib.hid hop
     clear hop hq HE
     go_wp2_with (first
      | (refine wpList_loadB rfl (.tmp 8) rfl (w.heap.size+1) rfl x0 (opBs xs) H56.out HM5.out ?_)
      | (refine wpList_storeB rfl (.tmp 6) (.tmp 37) rfl w.heap.size rfl x0 0 (opBs xs) zBs rfl H56.out zBs_len HM05.out ?_))
     simp only [Exit.jump]
     refine bodyPost_ret (results_blk rfl _ _ w.heap.size x0 (opBs xs) rfl H56.out (setRow_blk HM05.out)) rfl ?_
     refine ⟨?_,below_setRow HBL5.out (Nat.le_refl _) _⟩
     unfold openA
     rw [if_pos HOP.out,decide_eq_true HOP.out,HKX.out]
     rfl
    ·have HQ:=Lib.hid hq
     rw [decide_eq_false hq]
     clear hq HE
     go_wp2_with fail
     go_step3
     refine ⟨rfl,⟨HBL5.out,HM05.out,fun h=>HQ.out ?_⟩,_,_,_,_,_,_,_,_,_,_,_,_,_,_,_,_,_,_,_,_,_,_,_,_,_,_,_,_,_,_,_,_,_,_,_,_,_,_,rfl⟩
     have h3:=h.2.2
     rw [HKX.out,Int.toNat_natCast] at h3
     exact h3
   ·refine (seal_no l x0 t _ (opBs xs) W4 hl (by constructor <;> omega) ht (blkA_list _ _) hmay).mono ?_
    rintro e W5 ⟨rfl,hb5⟩
    have HM05:Hid (W5.heap[w.heap.size]?=some (.cells (blkA 0 zBs) 71 (0,0))):=by
     unfold Hid;rw [hb5.block _ (room_lt HM04.out)];exact HM04.out
    have HBL5:=Lib.hid (keepB HBL4.out hb5)
    have HMAY:=Lib.hid hmay
    clear hb5 hmay
    go_wp2_with fail
    go_step3
    refine ⟨rfl,⟨HBL5.out,HM05.out,fun h=>HMAY.out ?_⟩,_,_,_,_,_,_,_,_,_,_,_,_,_,_,_,_,_,_,_,_,_,_,_,_,_,_,_,_,_,_,_,_,_,_,_,_,_,_,rfl⟩
    have h3:=h.2.1
    rw [HKX.out] at h3
    exact h3
  ·go_wp2_with (first
    | (refine wpList_allocB rfl rfl ?_))
   go_step3
   refine ⟨rfl,⟨HBL2.out,HM02.out,fun h=>h64 (HN.out.symm.trans h.1)⟩,_,_,_,_,_,_,_,_,_,_,_,_,_,_,_,_,_,_,_,_,_,_,_,_,_,_,_,_,_,_,_,_,_,_,_,_,_,_,rfl⟩
 ·rintro a' W ⟨HH,u0,u1,u2,u3,u4,u5,u7,u8,u9,u10,u11,u12,u13,u14,u15,u16,u17,u18,u19,u20,u21,u22,u23,u24,u25,u26,u27,u28,u29,u30,u31,u32,u33,u34,u35,u36,u37,u38,rfl⟩
  have hblk:=HH.out.2.1
  go_wp2_with (first
   | (refine wpList_buildB0 rfl rfl ?_)
   | (refine wpList_storeB rfl (.tmp 6) (.tmp 38) rfl w.heap.size rfl 0 0 zBs zBs rfl zBs_len zBs_len hblk ?_))
  simp only [Exit.jump]
  refine bodyPost_ret (results_blk rfl _ _ w.heap.size 0 zBs rfl zBs_len (setRow_blk hblk)) rfl ?_
  refine ⟨?_,below_setRow HH.out.1 (Nat.le_refl _) _⟩
  unfold openA
  rw [if_neg HH.out.2.2,decide_eq_false HH.out.2.2]
  rfl
theorem built24k (x:Int):Tryz.prog.built 71 [(0,.int .i64 x)]=some (blkA x zBs):=by kernel_rfl
theorem wpList_buildBk {ops:Array Oper} {rest:List Oper} {o:Oper} {a:Act} {w:World} {Q:Exit→Act→World→Prop} (hgd:o.guard=none) (x:Operand) (k:Int) (ho:o.op=.build 71 #[(0,x)]) (hx:a.eval x=.int .i64 k)
 (h:wpList Tryz.prog ops Q rest (a.put o.dst (.agg (blkA k zBs))) w):wpList Tryz.prog ops Q (o :: rest) a w :=
 wpList_plain hgd fun _ hK=>by
  unfold Oper.wp execOp
  have hb:=run_build (P:=Tryz.prog) w 71 #[(0,.int .i64 k)] _ (built24k k)
  simp only [ho,List.map_toArray,List.map_cons,List.map_nil,hx,Sem.run_bind,hb,Result.andThen_ok]
  exact hK _ _ h
def fillBs (bs:List Int) (j:Nat):List Int:=bs.take j++List.replicate (56-j) 0
theorem fillBs_len {bs:List Int} {j:Nat} (h:bs.length=56) (hj:j≤56):(fillBs bs j).length=56:=by unfold fillBs;simp [h];omega
theorem fillBs_all {bs:List Int} (h:bs.length=56):fillBs bs 56=bs:=by unfold fillBs;simp [← h]
theorem fillBs_set {bs:List Int} {j:Nat} {x:Int} (h:bs.length=56) (hj:j<56) (hx:bs[j]?=some x):(fillBs bs j).set j x=fillBs bs (j+1):=by
 unfold fillBs
 rw [show 56-j=(56-(j+1))+1 by omega,List.replicate_succ,take_snoc' hx,List.set_append_right _ _ (by simp;omega)]
 simp only [List.length_take,h,Nat.min_eq_left (show j≤56 by omega),Nat.sub_self,List.set_cons_zero,List.append_assoc,List.singleton_append]
theorem blkA_setB (k:Int) (bs:List Int) (j:Nat) (x:Int):(blkA k bs).setIfInBounds (1+j) (.int .u8 x)=blkA k (bs.set j x):=by
 unfold blkA blkL
 rw [Nat.add_comm]
 simp [← set_Bs]
theorem opBs_at {xs:List Int} {j:Nat} (hj:j<56) {x:Int} (hx:xs[4+j]?=some x):(opBs xs)[j]?=some x:=by
 unfold opBs;rw [List.getElem?_take,if_pos hj,List.getElem?_drop];exact hx
set_option maxRecDepth 100000 in
set_option maxHeartbeats 3200000 in
theorem ropen_any (l t:Int) (A:Option Addr) (xs:List Int) (c:Nat) (w:World) (hl:0≤l∧l≤255) (ht:i64 t) (hc:xs.length≤c) (hc2:c≤9223372036854775807) (hB:AllB xs) (hy:Byt w A xs) :
 Calls Tryz.prog 52 #[.int .u8 l,.int .i64 t,.slice A xs.length c] w fun e w'=>e=.returned (.tuple #[.agg (openA l t xs),.bool (decide (Opens l t xs))])∧Below w.heap.size w w':=by
 have HY:=Lib.hid hy
 have HB:=Lib.hid hB
 have hm0:=heap_alloc_new w (Obj.cells (blkA 0 zBs) 71)
 have hbel0:Below w.heap.size w (w.alloc (Obj.cells (blkA 0 zBs) 71)):=(Below.refl _ _).alloc (Nat.le_refl _) _
 have hsz0:=size_alloc' w (Obj.cells (blkA 0 zBs) 71)
 clear hy hB
 generalize hn:xs.length=n at *
 have HN:=Lib.hid hn
 clear hn
 by_cases h64:n=64
 ·subst h64
  go_enter Tryz.func52,Tryz.ntmps52
  go_upto_region 3 with (first
   | (refine wpList_allocB rfl rfl ?_))
  generalize w.alloc (Obj.cells (blkA 0 zBs) 71)=W1 at *
  have HM0:=Lib.hid hm0
  have hszW:W1.heap.size=w.heap.size+1:=hsz0
  have HY1:=Lib.hid (HY.out.keep hbel0)
  clear hm0 hsz0
  have HM2:=Lib.hid (heap_alloc_new W1 (Obj.cells (blkA 0 zBs) 71))
  have HM02:Hid ((W1.alloc (Obj.cells (blkA 0 zBs) 71)).heap[w.heap.size]?=some (.cells (blkA 0 zBs) 71 (0,0))):=by
   unfold Hid;rw [heap_alloc_old W1 _ (by omega)];exact HM0.out
  have HBL2:=Lib.hid (hbel0.alloc hbel0.size (Obj.cells (blkA 0 zBs) 71))
  obtain ⟨x0,hx0⟩:∃ x0,xs[0]?=some x0:=⟨_,List.getElem?_eq_getElem (by rw [HN.out];omega)⟩
  obtain ⟨ad,rfl,hc0⟩:=HY1.out 0 x0 hx0
  have ea:ad.add 0=ad:=by unfold Addr.add;simp
  rw [ea] at hc0
  have hxb:=HB.out x0 (List.mem_of_getElem? hx0)
  have hk:opK xs=x0:=by unfold opK;rw [List.getD,hx0];rfl
  have HKX:=Lib.hid hk
  clear hx0 ea hk
  rw [hszW] at HM2
  have HW:=Lib.hid hszW
  go_wp2_with (first
   | (refine wpList_buildBk rfl (.tmp 19) x0 rfl rfl ?_)
   | (refine wpList_allocB rfl rfl ?_)
   | (refine wpList_storeB rfl (.tmp 8) (.tmp 20) rfl W1.heap.size rfl x0 0 zBs zBs rfl zBs_len zBs_len (by rw [HW.out];exact HM2.out) ?_))
  have hblk3:=setRow_blk (D:=blkA x0 zBs) HM2.out
  have hblk03:((W1.alloc (Obj.cells (blkA 0 zBs) 71)).setRow (w.heap.size+1) (blkA x0 zBs)).heap[w.heap.size]?=some (.cells (blkA 0 zBs) 71 (0,0)):=by
   rw [setRow_other _ _ _ _ (by omega)];exact HM02.out
  have hbel3:=below_setRow HBL2.out (show w.heap.size≤w.heap.size+1 by omega) (blkA x0 zBs)
  have h56:=Lib.hid (opBs_len HN.out)
  generalize (W1.alloc (Obj.cells (blkA 0 zBs) 71)).setRow (w.heap.size+1) (blkA x0 zBs)=W3 at *
  clear HM2 HM02 HBL2 HM0 hbel0 hc0
  go_loopw [9] (fun i wr=>∃ j:Nat,i=.int .i64 j∧j≤56∧wr.heap[w.heap.size+1]?=some (.cells (blkA x0 (fillBs (opBs xs) j)) 71 (0,0))∧wr.heap[w.heap.size]?=some (.cells (blkA 0 zBs) 71 (0,0))∧Below w.heap.size w wr) (fun i _=>56-(intOf i).toNat)
  case atStart=>exact ⟨0,rfl,Nat.zero_le _,hblk3,hblk03,hbel3⟩
  case round =>
   obtain ⟨j,rfl,hj,hb,hb0,hbel⟩:=hrel
   have HBK:=Lib.hid hb
   have HBK0:=Lib.hid hb0
   clear hb hb0 hblk3 hblk03 hbel3
   by_cases hlt:j<56
   ·obtain ⟨x,hx⟩:∃ x,xs[4+j]?=some x:=⟨_,List.getElem?_eq_getElem (by rw [HN.out];omega)⟩
    obtain ⟨ad',e,hcx⟩:=HY.out.keep hbel (4+j) x hx
    injection e with e;subst e
    have hcx':wr.cell? (ad.add (j+4))=some (.int .u8 x):=by rw [Nat.add_comm];exact hcx
    have hcx2:=hcx
    rw [show 4+j=(3+j)+1 by omega,add_sum,show 3+j+1=4+j by omega] at hcx2
    have hcx3:wr.cell? ⟨ad.block,ad.off+(j+4),none⟩=some (.int .u8 x):=by rw [Nat.add_comm j 4];exact hcx2
    have HX:=Lib.hid (opBs_at hlt hx)
    obtain ⟨u,hu⟩:∃ u,(blkA x0 (fillBs (opBs xs) j))[1+j]?=some u:=⟨_,Array.getElem?_eq_getElem (by rw [blkA_size (fillBs_len h56.out hj)];omega)⟩
    have c0:wr.cell? ⟨w.heap.size+1,1+j,none⟩=some u:=(blk_cell HBK.out (1+j)).trans hu
    have f0:wr.frozen? ⟨w.heap.size+1,1+j,none⟩=false:=blk_free HBK.out _
    clear hu hx
    go_wp2
    go_roundw
    case rel =>
     refine ⟨j+1,by go_num,by omega,?_,?_,hbel.setCell (by show _≤w.heap.size+1;omega) _⟩
     ·rw [heap_setCell_same' HBK.out,blkA_setB,fillBs_set h56.out hlt HX.out]
     ·rw [heap_setCell_other _ _ _ _ (by show w.heap.size≠w.heap.size+1;omega)];exact HBK0.out
    case measure=>simp [intOf];omega
   ·obtain rfl:j=56:=by omega
    rw [fillBs_all h56.out] at HBK
    have HYR:=Lib.hid (HY.out.keep hbel)
    go_wp2_with (first
     | (refine wpList_loadB rfl (.tmp 8) rfl (w.heap.size+1) rfl x0 (opBs xs) h56.out HBK.out ?_))
    by_cases hmay:MayB x0 t
    ·obtain ⟨m,rfl⟩:∃ m:Nat,t=(m:Int):=⟨t.toNat,by unfold MayB at hmay;omega⟩
     refine (rseal_yes l x0 m _ (opBs xs) wr hl hmay.1 (by unfold MayB at hmay;omega) (blkA_list _ _) h56.out (opBs_allB HB.out)).mono ?_
     rintro e W5 ⟨v5,rfl,own5,hb5⟩
     obtain ⟨A5,d5,rfl,hle5,hd5,hy5⟩:=byt_own own5 (sealB_length h56.out)
     rw [sealB_length h56.out]
     have hw1:(convert 48 9 (.slice A5 64 d5)).run Tryz.prog W5=.ok (.string (strOfNums (sealB l x0 m (opBs xs)))) W5:=conv_any hy5 (sealB_length h56.out)
     have hw2:(convert 48 9 (.slice (some ad) 64 c)).run Tryz.prog W5=.ok (.string (strOfNums xs)) W5:=conv_any (HYR.out.keep hb5) HN.out
     have HSB:=Lib.hid (str_beq (sealB_allB (k:=x0) (t:=m) hl hmay.1 (opBs_allB HB.out)) HB.out)
     have HM5:Hid (W5.heap[w.heap.size+1]?=some (.cells (blkA x0 (opBs xs)) 71 (0,0))):=by
      unfold Hid;rw [hb5.block _ (room_lt HBK.out)];exact HBK.out
     have HM05:Hid (W5.heap[w.heap.size]?=some (.cells (blkA 0 zBs) 71 (0,0))):=by
      unfold Hid;rw [hb5.block _ (room_lt HBK0.out)];exact HBK0.out
     have HBL5:=Lib.hid (keepB hbel hb5)
     have HMAY:=Lib.hid hmay
     have HSL:=Lib.hid (sealB_length (l:=l) (k:=x0) (t:=m) h56.out)
     clear own5 hy5 hb5 hmay
     by_cases hq:sealB l x0 m (opBs xs)=xs
     ·have hop:Opens l m xs:=⟨HN.out,by rw [HKX.out];exact HMAY.out,by rw [HKX.out,Int.toNat_natCast];exact hq⟩
      have HOP:=Lib.hid hop
      have HSQ:=HSB.out
      rw [decide_eq_true hq] at HSQ
      clear hop hq HSB
      generalize strOfNums (sealB l x0 m (opBs xs))=s1 at *
      generalize strOfNums xs=s2 at *
      go_wp2_with (first
       | (refine wpList_loadB rfl (.tmp 8) rfl (w.heap.size+1) rfl x0 (opBs xs) h56.out HM5.out ?_)
       | (refine wpList_storeB rfl (.tmp 6) (.tmp 50) rfl w.heap.size rfl x0 0 (opBs xs) zBs rfl h56.out zBs_len HM05.out ?_))
      refine bodyPost_ret (results_blk rfl _ _ w.heap.size x0 (opBs xs) rfl h56.out (setRow_blk HM05.out)) rfl ?_
      refine ⟨?_,below_setRow HBL5.out (Nat.le_refl _) _⟩
      unfold openA
      rw [if_pos HOP.out,decide_eq_true HOP.out,HKX.out]
      rfl
     ·have hno:¬ Opens l m xs:=fun h=>hq (by have h3:=h.2.2;rw [HKX.out,Int.toNat_natCast] at h3;exact h3)
      have HNO:=Lib.hid hno
      have HSQ:=HSB.out
      rw [decide_eq_false hq] at HSQ
      clear hno hq HSB
      generalize strOfNums (sealB l x0 m (opBs xs))=s1 at *
      generalize strOfNums xs=s2 at *
      go_wp2_with (first
       | (refine wpList_buildB0 rfl rfl ?_)
       | (refine wpList_storeB rfl (.tmp 6) (.tmp 49) rfl w.heap.size rfl 0 0 zBs zBs rfl zBs_len zBs_len HM05.out ?_))
      refine bodyPost_ret (results_blk rfl _ _ w.heap.size 0 zBs rfl zBs_len (setRow_blk HM05.out)) rfl ?_
      refine ⟨?_,below_setRow HBL5.out (Nat.le_refl _) _⟩
      unfold openA
      rw [if_neg HNO.out,decide_eq_false HNO.out]
      rfl
    ·refine (rseal_no l x0 t _ (opBs xs) wr hl (by constructor <;> omega) ht (blkA_list _ _) hmay).mono ?_
     rintro e W5 ⟨rfl,hb5⟩
     have HM05:Hid (W5.heap[w.heap.size]?=some (.cells (blkA 0 zBs) 71 (0,0))):=by
      unfold Hid;rw [hb5.block _ (room_lt HBK0.out)];exact HBK0.out
     have HBL5:=Lib.hid (keepB hbel hb5)
     have hno:¬ Opens l t xs:=fun h=>hmay (by have h3:=h.2.1;rw [HKX.out] at h3;exact h3)
     have HNO:=Lib.hid hno
     clear hb5 hmay hno
     go_wp2_with (first
      | (refine wpList_buildB0 rfl rfl ?_)
      | (refine wpList_storeB rfl (.tmp 6) (.tmp 49) rfl w.heap.size rfl 0 0 zBs zBs rfl zBs_len zBs_len HM05.out ?_))
     refine bodyPost_ret (results_blk rfl _ _ w.heap.size 0 zBs rfl zBs_len (setRow_blk HM05.out)) rfl ?_
     refine ⟨?_,below_setRow HBL5.out (Nat.le_refl _) _⟩
     unfold openA
     rw [if_neg HNO.out,decide_eq_false HNO.out]
     rfl
 ·go_enter Tryz.func52,Tryz.ntmps52
  have hbel1:=below_setRow hbel0 (Nat.le_refl w.heap.size) (blkA 0 zBs)
  have hbs:=setRow_blk (D:=blkA 0 zBs) hm0
  go_wp2_with (first
   | (refine wpList_allocB rfl rfl ?_)
   | (refine wpList_buildB0 rfl rfl ?_)
   | (refine wpList_storeB rfl (.tmp 6) (.tmp 15) rfl w.heap.size rfl 0 0 zBs zBs rfl zBs_len zBs_len hm0 ?_))
  refine bodyPost_ret (results_blk rfl _ _ w.heap.size 0 zBs rfl zBs_len hbs) rfl ?_
  refine ⟨?_,hbel1⟩
  have hno:¬ Opens l t xs:=fun h=>h64 (HN.out.symm.trans h.1)
  unfold openA
  rw [if_neg hno,decide_eq_false hno]
  rfl
end Go.Proofs.YtamnpblijdgdaaaGreat
namespace Go.Proofs.YtamnpblijdgdaaaGreat
set_option linter.unusedVariables false
set_option maxRecDepth 100000
end Go.Proofs.YtamnpblijdgdaaaGreat
namespace Go.Proofs.YtamnpblijdgdaaaGreat
open Go.ChangeShapes Go.WideShapes Go.ChangeAt Go.RowKit
set_option linter.unusedVariables false
set_option maxRecDepth 100000
def u8s (bs:List Int):List UInt8:=bs.map fun n=>UInt8.ofNat n.toNat
theorem Bs_cell {bs:List Int} (h:AllB bs):Bs bs=(u8s bs).map Extern.Stop.cell:=by
 unfold Bs u8s
 rw [List.map_map]
 refine List.map_congr_left fun x hx=>?_
 have hb:=h x hx
 simp only [Function.comp_apply,Extern.Stop.cell,UInt8.toNat_ofNat']
 congr 1
 show x=((x.toNat%256:Nat):Int)
 omega
theorem two_of {α:Type}:∀ {l:List α},l.length=2→∃ a b,l=[a,b]
 | [a,b],_=>⟨a,b,rfl⟩
 | [],h=>by cases h
 | [_],h=>by cases h
 | _ :: _ :: _ :: _,h=>by simp at h
theorem opK_seal (l k:Int) (n:Nat) (bs:List Int):opK (sealB l k n bs)=k:=rfl
theorem opBs_seal {l k:Int} {n:Nat} {bs:List Int} (h:bs.length=56):opBs (sealB l k n bs)=bs:=by
 show (bs++be (sumV (headB l k n bs)) 4).take 56=bs
 rw [← h];exact List.take_left
theorem opens_iff {l l' k:Int} {n m:Nat} {bs:List Int} (h:bs.length=56) (hk:0≤k∧k≤7) (hn:n<200) (hm:m<200):Opens l' m (sealB l k n bs)↔l'=l∧m=n:=by
 constructor
 ·rintro ⟨_,_,h3⟩
  rw [opK_seal,opBs_seal h,Int.toNat_natCast] at h3
  have e1:l'=l:=by have:=congrArg (fun x:List Int=>x.getD 1 0) h3;exact this
  have e2:be m 2=be n 2:=by have:=congrArg (fun x:List Int=>(x.drop 2).take 2) h3;exact this
  exact ⟨e1,be2_inj (by omega) (by omega) e2⟩
 ·rintro ⟨rfl,rfl⟩
  exact ⟨sealB_length h,by rw [opK_seal];exact ⟨hk,by omega⟩,by rw [opK_seal,opBs_seal h,Int.toNat_natCast]⟩
theorem zBs_allB:AllB zBs:=fun x hx=>by unfold zBs at hx;rw [List.eq_of_mem_replicate hx];omega
section
variable {ops:Array Oper} {rest:List Oper} {o:Oper} {a:Act} {w:World} {Q:Exit→Act→World→Prop}
end
section
variable {H:Type} {enc:TypeId × Value→H} {w:World} {base:Nat} {spare:Nat→Bool} {held:Bool}
theorem cells22:Tryz.prog.cellsOf 69=56:=by kernel_rfl
theorem cells24:Tryz.prog.cellsOf 71=57:=by kernel_rfl
theorem cells3b:Tryz.prog.cellsOf 3=1:=by kernel_rfl
theorem take_one {α:Type} {l:List α} {i:Nat} {x:α} (h:(l.drop i).take 1=[x]):l[i]?=some x:=by
 have:((l.drop i).take 1)[0]?=some x:=by rw [h];rfl
 rw [List.getElem?_take,if_pos (by omega),List.getElem?_drop] at this
 exact this
theorem open_body {fuel:Nat} {cs:List Value} {x:DataW H × List MemPlace} (h:DataW.trod enc Tryz.prog w base spare held fuel 69 cs=some x) :
 ∃ bs:List Int,cs=Bs bs∧bs.length=56∧AllB bs:=by
 obtain ⟨ys,m,_,rfl,hl,hys,hel⟩:=DataW.trod_array Tryz.underlying69 h
 rw [cells22] at hl
 have leaf:∀ i,i<56→∃ n:Int,cs[i]?=some (.int .u8 n)∧0≤n∧n<256:=fun i hi=>by
  have h1:=hel i hi
  rw [cells5',Nat.mul_one] at h1
  obtain ⟨y,hy⟩:∃ y,ys[i]?=some y:=⟨_,List.getElem?_eq_getElem (by omega)⟩
  rw [hy] at h1
  obtain ⟨n,e,_,hwf⟩:=DataW.trod_int Tryz.underlying5 h1
  have:=bounds_u8 hwf
  exact ⟨n,take_one e,by omega,by omega⟩
 refine ⟨cs.map intOf,?_,by simpa using hl,fun x hx=>?_⟩
 ·apply List.ext_getElem?
  intro i
  by_cases hi:i<56
  ·obtain ⟨n,e,_⟩:=leaf i hi
   unfold Bs
   rw [List.getElem?_map,List.getElem?_map,e];rfl
  ·rw [List.getElem?_eq_none (by omega),List.getElem?_eq_none (by rw [Bs_length];simp;omega)]
 ·obtain ⟨v,hv,rfl⟩:=List.mem_map.1 hx
  obtain ⟨i,hi⟩:=List.getElem?_of_mem hv
  have hlt:=(List.getElem?_eq_some_iff.1 hi).1
  obtain ⟨n,e,h1⟩:=leaf i (by omega)
  rw [e] at hi
  injection hi with hi
  subst hi
  exact h1
theorem open_blk {fuel:Nat} {cs:List Value} {x:DataW H × List MemPlace} (h:DataW.trod enc Tryz.prog w base spare held fuel 71 cs=some x) :
 ∃ (k:Int) (bs:List Int),cs=blkL k bs∧bs.length=56∧i64 k∧AllB bs:=by
 have hS:Tryz.prog.underlying 71=some (.struct (Tryz.prog.fieldsOf 71)):=by kernel_rfl
 obtain ⟨ys,m,_,rfl,hl,hys,hel⟩:=DataW.trod_struct hS h
 rw [cells24] at hl
 have hf:(Tryz.prog.fieldsOf 71).toList.map (fun f=>(f.type,f.offset))=[(3,0),(69,1)]:=by kernel_rfl
 have hsz:(Tryz.prog.fieldsOf 71).size=2:=by kernel_rfl
 obtain ⟨f0,f1,hfs⟩:=two_of (show (Tryz.prog.fieldsOf 71).toList.length=2 by simpa using hsz)
 rw [hfs] at hf
 simp only [List.map_cons,List.map_nil,List.cons.injEq,Prod.mk.injEq,and_true] at hf
 obtain ⟨⟨t0,o0⟩,⟨t1,o1⟩⟩:=hf
 have h0:=hel 0 f0 (by rw [← Array.getElem?_toList,hfs];rfl)
 have h1:=hel 1 f1 (by rw [← Array.getElem?_toList,hfs];rfl)
 rw [t0,o0] at h0
 rw [t1,o1] at h1
 rw [hsz] at hys
 obtain ⟨y0,hy0⟩:∃ y,ys[0]?=some y:=⟨_,List.getElem?_eq_getElem (by omega)⟩
 obtain ⟨y1,hy1⟩:∃ y,ys[1]?=some y:=⟨_,List.getElem?_eq_getElem (by omega)⟩
 rw [hy0] at h0
 rw [hy1] at h1
 obtain ⟨k,e0,_,hwf⟩:=DataW.trod_int Tryz.underlying3 h0
 obtain ⟨bs,e1,h56,hB⟩:=open_body h1
 rw [show Tryz.prog.cellsOf (3)=1 from cells3b] at e0
 rw [show Tryz.prog.cellsOf (69)=56 from cells22] at e1
 have c0:=take_one e0
 refine ⟨k,bs,?_,h56,?_,hB⟩
 ·unfold blkL
  cases cs with
  | nil=>cases c0
  | cons v l =>
    have hv:v=.int .i64 k:=by simpa using c0
    have:(l.take 56)=Bs bs:=e1
    rw [hv,← this,List.take_of_length_le (by simp at hl;omega)]
 ·have:=bounds_i64 hwf
  constructor <;> omega
end
theorem kb {W W':World} {g:Nat} {o:Obj} (hb:Below W.heap.size W W') (h:W.heap[g]?=some o):W'.heap[g]?=some o:=by rw [hb.block _ (room_lt h)];exact h
section
variable {ops:Array Oper} {rest:List Oper} {o:Oper} {a:Act} {w:World} {Q:Exit→Act→World→Prop}
end
theorem openA_blk (l t:Int) {xs:List Int} (h:AllB xs):∃ k bs,openA l t xs=blkA k bs∧bs.length=56∧AllB bs:=by
 unfold openA
 split
 ·rename_i h1;exact ⟨_,_,rfl,opBs_len h1.1,opBs_allB h⟩
 ·exact ⟨_,_,rfl,zBs_len,zBs_allB⟩
end Go.Proofs.YtamnpblijdgdaaaGreat
