/- For FileForms: contracts and facts, part 6. -/
import Derived.Deep.DeepCutAuto
import Derived.Laws.FloatArith
import Derived.Laws.Cover3
import Derived.Test.YtegjelaejbacnaaGreatRows
import Derived.WalkKit
import Derived.ProofKit
import Derived.OpenShut
import Derived.Outline
import Derived.WalkLawsBesides
import Derived.Laws.Bits64b
import Derived.Deep.RegionHeld3
import Derived.Lib.Hide
import Derived.Lib.SlBytesConst
import Derived.IntWalk
import Derived.Laws.MakeOwn
import Derived.Deep.Onto
import Derived.Laws.CopyRow
import Derived.Laws.ResultCell
import Derived.Laws.Tables
import Derived.Laws.Rows
import Derived.Stop.BytesEq
import Derived.StillTailTactics
import Derived.Laws.BitsAllLaws
import Derived.Test.YtegjelaejbacnaaGreatW01
import Derived.Test.YtegjelaejbacnaaGreatW02
import Derived.Test.YtegjelaejbacnaaGreatW03
import Derived.Test.YtegjelaejbacnaaGreatW05
set_option maxRecDepth 100000
set_option maxHeartbeats 25600000
set_option linter.unusedVariables false
open Go.ChangeShapes Go.WideShapes Go.ChangeAt Go.RowKit Go
namespace Go.Proofs.YtegjelaejbacnaaGreat
open Fx
theorem G4:fb 2=4611686018427387904:=by rw [fb_eq 2 Ha];decide
def lP (a n:Nat):Value:=.complex .f64 (fb a) (fb n)
theorem vq:lP 0 2=.complex .f64 0 4611686018427387904:=by unfold lP;rw [tV,G4]
theorem zr (a n:Nat) (h:a+n<=100000) (w:World) :
 Calls Tryz.prog 91 #[lP a n] w fun e w'=>e=.returned (.float .f64 (fb (a+n)))/\w=w':=by
 have s:=fun w:World=>run_float_arith (P:=Tryz.prog) w .add 175 .f64 _ _ _ (xK a n Ha);unfold lP;generalize a+n=m at *;go_enter Tryz.func91,Tryz.ntmps91;go_wp2;go_ret;exact ⟨rfl,rfl⟩
theorem pK (a n b:Nat) (h:a+n<=100000) (w:World) :
 Calls Tryz.prog 148 #[lP a n,.int .i64 b] w fun e w'=>e=.returned (lP (a+n) b)/\w=w':=by
 have H:=He (zr a n h);go_enter Tryz.func148,Tryz.ntmps148;go_wp2_with fail
 refine (H.out _).mono ?_;rintro e w' ⟨rfl,rfl⟩;go_wp2_with fail
 go_ret;exact ⟨rfl,rfl⟩
def cV (a n:Nat) (i:Int):Int:=if 0<=i/\i<n then a+i else -1
theorem nU (a n:Nat) (i:Int) (h:a+n<=100000) (hi : -9223372036854775808<=i/\i<=100000) (w:World) :
 Calls Tryz.prog 189 #[lP a n,.int .i64 i] w fun e w'=>e=.returned (.int .i64 (cV a n i))/\w=w':=by
 unfold lP;by_cases h0:i<0
 ·have e:cV a n i = -1:=by unfold cV;rw [if_neg Ha]
  rw [e];clear e;go_enter Tryz.func189,Tryz.ntmps189;go_wp2;go_ret;exact ⟨rfl,rfl⟩
 ·obtain ⟨k,rfl⟩:∃ k:Nat,i=(k:Int):=⟨i.toNat,Ha⟩
  have g:(FloatKind.f64.format.order (floatOfInt .f64 (k:Int)) (fb n)==some .gt||FloatKind.f64.format.order (floatOfInt .f64 (k:Int)) (fb n)==some .eq)=decide (n<=k):=Gp k n Ha Ha;have v:=fun w:World=>run_convert_float_int w 175 3 .f64 .i64 _ _ (P:=Tryz.prog) Hc Tryz.underlying3 (mO a Ha);by_cases h1:n<=k
  ·have e:cV a n k = -1:=by unfold cV;rw [if_neg Ha]
   rw [e];rw [decide_eq_true h1] at g;clear e;go_enter Tryz.func189,Tryz.ntmps189;go_wp2;go_ret;exact ⟨rfl,rfl⟩
  ·have e:cV a n k=a+k:=by unfold cV;rw [if_pos Ha]
   rw [e];rw [decide_eq_false h1] at g;clear e;go_enter Tryz.func189,Tryz.ntmps189;go_wp2;go_ret;exact ⟨kX (by first | rfl | omega),rfl⟩
def pi (l c:Int) (b g:Nat) (f:Int):Value:=.agg #[.int .i64 l,.int .i64 c,.int .i64 b,.int .i64 g,.int .i64 f]
theorem zt (l c:Int) (b g:Nat) (f:Int) (w:World) :
 Calls Tryz.prog 149 #[pi l c b g f] w fun e w'=>e=.returned (lP 2 g)/\Below w.heap.size w w':=by
 have H:=He (pK 0 2 g Ha);rw [vq] at H;unfold pi;go_enter Tryz.func149,Tryz.ntmps149;go_wp2_with fail
 refine (H.out _).mono ?_;rintro e w' ⟨rfl,rfl⟩;go_wp2_with fail
 go_ret;exact ⟨rfl,(Below.refl _ _).alloc (Nat.le_refl _) _⟩
theorem sp (l c:Int) (b g:Nat) (f:Int) (hg:g<=1000) (w:World) :
 Calls Tryz.prog 92 #[pi l c b g f] w fun e w'=>e=.returned (lP (2+g) b)/\Below w.heap.size w w':=by
 have H:=He (pK 2 g b Ha);have HL:=He (zt l c b g f);unfold pi at HL ⊢;go_enter Tryz.func92,Tryz.ntmps92;go_upto_region 1 with fail
 obtain ⟨W,hW⟩:∃ W,W=w.alloc (Obj.cells #[.int .i64 l,.int .i64 c,.int .i64 b,.int .i64 g,.int .i64 f] 97):=⟨_,rfl⟩
 rw [<- hW];have z0:W.cell? ⟨w.heap.size,0,none⟩=some (.int .i64 l):=by rw [hW];simp [go_sem]
 have z1:W.cell? ⟨w.heap.size,1,none⟩=some (.int .i64 c):=by rw [hW];simp [go_sem]
 have z2:W.cell? ⟨w.heap.size,2,none⟩=some (.int .i64 b):=by rw [hW];simp [go_sem]
 have z3:W.cell? ⟨w.heap.size,3,none⟩=some (.int .i64 g):=by rw [hW];simp [go_sem]
 have z4:W.cell? ⟨w.heap.size,4,none⟩=some (.int .i64 f):=by rw [hW];simp [go_sem]
 have hBW:Below w.heap.size w W:=by rw [hW];exact (Below.refl _ _).alloc (Nat.le_refl _) _
 clear hW;have hsz:w.heap.size<=W.heap.size:=hBW.size;have HB:=He hBW;clear hBW;generalize w.heap.size=r at z0 z1 z2 z3 z4 ⊢;have k0:∀ g:dU W,g.w.cell? _=_:=fun g=>g.keep z0;have k1:∀ g:dU W,g.w.cell? _=_:=fun g=>g.keep z1;have k2:∀ g:dU W,g.w.cell? _=_:=fun g=>g.keep z2;have k3:∀ g:dU W,g.w.cell? _=_:=fun g=>g.keep z3;have k4:∀ g:dU W,g.w.cell? _=_:=fun g=>g.keep z4;clear z0 z1 z2 z3 z4;refine kq Hc Hc ?_
 repeat (go_big_quiet_step ((first | (go_at_call 149;exact oG (HL.out _)) | (go_at_call 148;exact nT (H.out _)))))
 refine wpQuiet_nil ?_;intro _ hw';obtain ⟨nq,hw''⟩:=hw';subst hw'';have hBW2:=He (HB.out.trans (nq.below.mono hsz));clear k0 k1 k2 k3 k4;generalize dU.w nq=V at *;clear nq;go_wp2;go_ret;exact ⟨rfl,hBW2.out⟩
theorem vt (l c:Int) (b g:Nat) (f:Int) (hb:b<=1000) (hg:g<=1000) (w:World) :
 Calls Tryz.prog 41 #[pi l c b g f] w fun e w'=>e=.returned (.int .i64 ((2+g+b:Nat):Int))/\Below w.heap.size w w':=by
 have H:=He (sp l c b g f hg);have HE:=He (zr (2+g) b Ha);have v:=fun w:World=>run_convert_float_int w 175 3 .f64 .i64 _ _ (P:=Tryz.prog) Hc Tryz.underlying3 (mO (2+g+b) Ha);generalize 2+g+b=m at *;unfold pi at H ⊢;go_enter Tryz.func41,Tryz.ntmps41;go_wp2_with fail
 refine (H.out _).mono ?_;rintro e w' ⟨rfl,hB⟩;have hB2:=((Below.refl w.heap.size w).alloc (Nat.le_refl _) _).trans (hB.mono Hb);have HB:=He hB2;clear hB hB2;go_wp2_with fail
 refine (HE.out _).mono ?_;rintro e w' ⟨rfl,rfl⟩;go_wp2_with fail
 go_ret;exact ⟨rfl,HB.out⟩
theorem zu (l c:Int) (b g:Nat) (f i:Int) (hg:g<=1000) (hi : -9223372036854775808<=i/\i<=100000) (w:World) :
 Calls Tryz.prog 165 #[pi l c b g f,.int .i64 i] w fun e w'=>e=.returned (.int .i64 (cV 2 g i))/\Below w.heap.size w w':=by
 have H:=He (zt l c b g f);have HE:=He (nU 2 g i Ha hi);generalize cV 2 g i=m at *;unfold pi at H ⊢;go_enter Tryz.func165,Tryz.ntmps165;go_wp2_with fail
 refine (H.out _).mono ?_;rintro e w' ⟨rfl,hB⟩;have hB2:=((Below.refl w.heap.size w).alloc (Nat.le_refl _) _).trans (hB.mono Hb);have HB:=He hB2;clear hB hB2;go_wp2_with fail
 refine (HE.out _).mono ?_;rintro e w' ⟨rfl,rfl⟩;go_wp2_with fail
 go_ret;exact ⟨rfl,HB.out⟩
theorem vw (l c:Int) (b g:Nat) (f i:Int) (hb:b<=1000) (hg:g<=1000) (hi : -9223372036854775808<=i/\i<=100000) (w:World) :
 Calls Tryz.prog 154 #[pi l c b g f,.int .i64 i] w fun e w'=>e=.returned (.int .i64 (cV (2+g) b i))/\Below w.heap.size w w':=by
 have H:=He (sp l c b g f hg);have HE:=He (nU (2+g) b i Ha hi);generalize cV (2+g) b i=m at *;unfold pi at H ⊢;go_enter Tryz.func154,Tryz.ntmps154;go_wp2_with fail
 refine (H.out _).mono ?_;rintro e w' ⟨rfl,hB⟩;have hB2:=((Below.refl w.heap.size w).alloc (Nat.le_refl _) _).trans (hB.mono Hb);have HB:=He hB2;clear hB hB2;go_wp2_with fail
 refine (HE.out _).mono ?_;rintro e w' ⟨rfl,rfl⟩;go_wp2_with fail
 go_ret;exact ⟨rfl,HB.out⟩
theorem j5 (x:Int) (h0:0<=x) (w:World) :
 Calls Tryz.prog 156 #[.int .u32 x] w fun e w'=>e=.returned (.int .i64 (x%2))/\w=w':=by
 have HE:=fun w=>nU 0 2 (x%2) Ha Ha w;rw [vq,show cV 0 2 (x%2)=x%2 by unfold cV;rw [if_pos Ha];omega] at HE;have u:=IntWalk.u32_in (x%2) Ha;have e:x.tmod 2=x%2:=Int.tmod_eq_emod_of_nonneg h0;have HE':=He HE;clear HE;go_enter Tryz.func156,Tryz.ntmps156;go_wp2_with fail
 refine (HE'.out _).mono ?_;rintro e w' ⟨rfl,rfl⟩;go_wp2_with fail
 go_ret;exact ⟨rfl,rfl⟩
end Go.Proofs.YtegjelaejbacnaaGreat
namespace Go.Proofs.YtegjelaejbacnaaGreat.Fl
abbrev F (n:Int):Nat:=floatOfInt .f64 n
theorem o5 (neg:Bool) (n drop:Nat) :
 n/2 ^ (min drop (n.log2+2))<=Ieee.Toward.even.cut neg n drop/\Ieee.Toward.even.cut neg n drop<=n/2 ^ (min drop (n.log2+2))+1:=by
 unfold Ieee.Toward.cut;simp only [Nat.one_shiftLeft];constructor
 ·omega
 ·have:∀ b:Bool,b.toNat<=1:=Hd;have:=this (decide (2 ^ (min drop (n.log2+2))<2*(n%2 ^ (min drop (n.log2+2))))||(2 ^ (min drop (n.log2+2))==2*(n%2 ^ (min drop (n.log2+2)))&&n/2 ^ (min drop (n.log2+2))%2==1));omega
theorem log2_lt {n k:Nat} (h0:n≠0) (h:n<2 ^ k):n.log2<k:=(Nat.log2_lt h0).2 h
theorem le_log2 {n k:Nat} (h:2 ^ k<=n):k<=n.log2:=by
 have h0:n≠0:=by have:=Nat.two_pow_pos k;omega
 exact (Nat.le_log2 h0).2 h
theorem vx (m:Nat) (h0:1<=m) (h:m<=2 ^ 63) :
 ∃ r,(∀ neg,Ieee.double.nearest neg m 0=Ieee.double.word neg r)/\(m.log2+1023)*2 ^ 52<=r/\r<=(m.log2+1024)*2 ^ 52:=by
 have hm:m≠0:=Ha;have hL:m.log2<64:=log2_lt hm Ha;have hlo:2 ^ m.log2<=m:=Nat.log2_self_le hm;have hhi:m<2 ^ (m.log2+1):=Nat.lt_log2_self;generalize hg:m.log2=L at *;have key:∀ neg,Ieee.double.nearest neg m 0=Ieee.double.word neg (min ((L+1022)*2 ^ 52+Ieee.Toward.even.cut neg (m <<< (52-L)) (L-52)) Ieee.double.infRung):=by
  intro neg;unfold Ieee.Format.nearest;rw [if_neg hm,hg];have hl:(max ((0:Int)+(L:Int)-(Ieee.double.fractionBits:Nat)) Ieee.double.leastPlace)=(L:Int)-52:=by
   have:Ieee.double.leastPlace = -1074:=Hd;have h2:(Ieee.double.fractionBits:Int)=52:=rfl;rw [this,h2];omega
  simp only [hl];have a1:((L:Int)-52-Ieee.double.leastPlace).toNat=L+1022:=by
   have:Ieee.double.leastPlace = -1074:=Hd;rw [this];omega
  have a2:((0:Int)-((L:Int)-52)).toNat=52-L:=Ha;have a3:(((L:Int)-52)-0).toNat=L-52:=Ha;have a4:Ieee.double.binade=2 ^ 52:=rfl;rw [a1,a2,a3,a4]
 have hneg:∀ n d neg,Ieee.Toward.even.cut neg n d=Ieee.Toward.even.cut false n d:=fun n d neg=>rfl;have hkept:2 ^ 52<=Ieee.Toward.even.cut false (m <<< (52-L)) (L-52)/\Ieee.Toward.even.cut false (m <<< (52-L)) (L-52)<=2 ^ 53:=by
  by_cases hc:L<=52
  ·have hd:L-52=0:=Ha;rw [hd];have e:Ieee.Toward.even.cut false (m <<< (52-L)) 0=m <<< (52-L):=by
    unfold Ieee.Toward.cut;simp [Nat.mod_one]
   rw [e,Nat.shiftLeft_eq];have p1:2 ^ L*2 ^ (52-L)=2 ^ 52:=by rw [<- Nat.pow_add];congr 1;omega
   have p2:2 ^ (L+1)*2 ^ (52-L)=2 ^ 53:=by rw [<- Nat.pow_add];congr 1;omega
   have q1:=Nat.mul_le_mul_right (2 ^ (52-L)) hlo;have q2:=Nat.mul_le_mul_right (2 ^ (52-L)) (Nat.le_of_lt hhi);omega
  ·have hd:52-L=0:=Ha;rw [hd,Nat.shiftLeft_zero];obtain ⟨b1,b2⟩:=o5 false m (L-52);have hmin:min (L-52) (m.log2+2)=L-52:=Ha;rw [hmin] at b1 b2;have p1:2 ^ 52*2 ^ (L-52)=2 ^ L:=by rw [<- Nat.pow_add];congr 1;omega
   have p2:2 ^ 53*2 ^ (L-52)=2 ^ (L+1):=by rw [<- Nat.pow_add];congr 1;omega
   have q1:2 ^ 52<=m/2 ^ (L-52):=(Nat.le_div_iff_mul_le (Nat.two_pow_pos _)).2 Ha;have q2:m/2 ^ (L-52)<2 ^ 53:=(Nat.div_lt_iff_lt_mul (Nat.two_pow_pos _)).2 Ha;omega
 refine ⟨(L+1022)*2 ^ 52+Ieee.Toward.even.cut false (m <<< (52-L)) (L-52),?_,?_,?_⟩
 ·intro neg;rw [key neg,hneg _ _ neg]
  congr 1
  have:Ieee.double.infRung=2047*2 ^ 52:=Hd;rw [this];have:(L+1022)*2 ^ 52<=(63+1022)*2 ^ 52:=Nat.mul_le_mul_right _ Ha;omega
 ·have:=hkept.1;omega
 ·have:=hkept.2;omega
theorem AG (neg:Bool) (r:Nat) (h1:2 ^ 52<=r) (h2:r<2047*2 ^ 52) :
 Ieee.double.read (Ieee.double.word neg r)=.number neg (2 ^ 52+r%2 ^ 52) (-1074+(r/2 ^ 52-1:Nat)):=by
 unfold Ieee.Format.read Ieee.Format.word;have s:Ieee.double.signWeight=2 ^ 63:=rfl;have b:Ieee.double.binade=2 ^ 52:=rfl;have i:Ieee.double.infRung=2047*2 ^ 52:=Hd;have l:Ieee.double.leastPlace = -1074:=Hd;rw [s,b,i,l];have e1:(if neg=true then 2 ^ 63+r else r)%2 ^ 63=r:=by split <;> omega
 have e2:((if neg=true then 2 ^ 63+r else r)/2 ^ 63%2==1)=neg:=by
  cases neg
  ·simp;omega
  ·simp;omega
 simp only [e1,e2];rw [if_neg Ha,if_pos h2]
theorem Jr (n:Int) (h:1<=n) (h2:n<=2 ^ 63):∃ r,F n=r/\(n.toNat.log2+1023)*2 ^ 52<=r/\r<=(n.toNat.log2+1024)*2 ^ 52:=by
 obtain ⟨r,hr,h3,h4⟩:=vx n.toNat Ha Ha;refine ⟨r,?_,h3,h4⟩;have:F n=Ieee.double.nearest (decide (n<0)) n.natAbs 0:=rfl;rw [this,show n.natAbs=n.toNat by omega,hr,show decide (n<0)=false by simp;omega];rfl
theorem AH (n:Int) (h:16<=n) (h2:n<=2 ^ 63) (y:Nat) (m:Nat) (p:Int) (hy:Ieee.double.read y=.number false m p) (hm:m<2 ^ 53) (hp:p <= -49) :
 FloatKind.f64.format.order (F n) y=some .gt:=by
 obtain ⟨r,e,h3,h4⟩:=Jr n Ha h2;have hL:n.toNat.log2<64:=log2_lt Ha Ha;have hL4:4<=n.toNat.log2:=le_log2 Ha;show Ieee.double.order (F n) y=_;unfold Ieee.Format.order;have ew:r=Ieee.double.word false r:=rfl;rw [e,ew,AG false r Ha Ha,hy];simp only [Ieee.Datum.order,Option.some.injEq];have hq:n.toNat.log2+1023<=r/2 ^ 52:=(Nat.le_div_iff_mul_le Ha).2 h3;generalize hplace:(-1074+((r/2 ^ 52-1:Nat):Int))=place at *;have hplace2:p+1<=place:=Ha;have hb:min place p=p:=Ha;rw [hb];have:compare (Ieee.signed false (2 ^ 52+r%2 ^ 52) (place-p).toNat) (Ieee.signed false m (p-p).toNat)=.gt:=by
  rw [Int.compare_eq_gt];unfold Ieee.signed;simp only [Bool.false_eq_true,if_false,Nat.shiftLeft_eq];have e1:(p-p).toNat=0:=Ha;rw [e1];have e2:2 ^ 1<=2 ^ (place-p).toNat:=Nat.pow_le_pow_right Ha Ha;have e3:=Nat.mul_le_mul (show 2 ^ 52<=2 ^ 52+r%2 ^ 52 by omega) e2;omega
 exact this
theorem AI:∀ i:Fin 80,floatToIntVal .f64 (F (i.val:Int)) .i64=some (i.val:Int)/\floatToIntVal .f64 (F (i.val:Int)) .u64=some (i.val:Int)/\floatToIntVal .f64 (F (i.val:Int)) .u8=some (i.val:Int):=by decide +kernel
theorem AJ:∀ i:Fin 5,FloatKind.f64.format.mul (F (i.val:Int)) (F 16)=some (F ((i.val:Int)*16)):=by decide +kernel
theorem AK:∀ i:Fin 5,∀ j:Fin 16,FloatKind.f64.format.add (F ((i.val:Int)*16)) (F (j.val:Int))=some (F ((i.val:Int)*16+j.val)):=by decide +kernel
theorem AM:∀ i:Fin 80,(FloatKind.f64.format.order (F (i.val:Int)) 0==some .gt||FloatKind.f64.format.order (F (i.val:Int)) 0==some .eq)=true:=by decide +kernel
theorem AN:∀ i:Fin 80,(FloatKind.f64.format.order (F (i.val:Int)) 4613937818241073152==some .lt||FloatKind.f64.format.order (F (i.val:Int)) 4613937818241073152==some .eq)=decide (i.val<=3):=by decide +kernel
theorem xR:∀ i:Fin 80,(FloatKind.f64.format.order (F (i.val:Int)) 4624633867356078080==some .lt||FloatKind.f64.format.order (F (i.val:Int)) 4624633867356078080==some .eq)=decide (i.val<=15):=by decide +kernel
theorem Gr (n:Int) (h:0<=n) (h2:n<=2 ^ 63):(FloatKind.f64.format.order (F n) 0==some .gt||FloatKind.f64.format.order (F n) 0==some .eq)=true:=by
 by_cases hs:n<16
 ·have:=AM ⟨n.toNat,Ha⟩
  rwa [show ((n.toNat:Nat):Int)=n by omega] at this
 ·rw [AH n Ha h2 0 0 (-1074) (by decide +kernel) Ha Ha];rfl
theorem Js (n:Int) (h:0<=n) (h3:n<=3):(FloatKind.f64.format.order (F n) 4613937818241073152==some .lt||FloatKind.f64.format.order (F n) 4613937818241073152==some .eq)=true:=by
 have:=AN ⟨n.toNat,Ha⟩;simp only [show ((n.toNat:Nat):Int)=n by omega] at this;rw [this];simp;omega
theorem G5 (n:Int) (h:0<=n) (h3:n<=15):(FloatKind.f64.format.order (F n) 4624633867356078080==some .lt||FloatKind.f64.format.order (F n) 4624633867356078080==some .eq)=true:=by
 have:=xR ⟨n.toNat,Ha⟩;simp only [show ((n.toNat:Nat):Int)=n by omega] at this;rw [this];simp;omega
theorem AO (i:Int) (h:0<=i/\i<80):floatToIntVal .f64 (F i) .i64=some i/\floatToIntVal .f64 (F i) .u64=some i/\floatToIntVal .f64 (F i) .u8=some i:=by
 have:=AI ⟨i.toNat,Ha⟩;simp only [show ((i.toNat:Nat):Int)=i by omega] at this;exact this
theorem ES (i:Nat) (h:i<5):FloatKind.f64.format.mul (F i) (F 16)=some (F (i*16)):=AJ ⟨i,h⟩
theorem EU (i j:Nat) (h:i<5) (h2:j<16):FloatKind.f64.format.add (F (i*16)) (F j)=some (F (i*16+j)):=AK ⟨i,h⟩ ⟨j,h2⟩
theorem K5 {P:Program} (s d:TypeId) (hs:(P.underlying s).isSome=true) (hd:P.underlying d=some (.int .u8)) (i:Nat) (h:i<80) (w:World) :
 (convert s d (.float .f64 (F i))).run P w=.ok (.int .u8 i) w:=run_convert_float_int w s d .f64 .u8 _ _ hs hd (AO i Ha).2.2
end Go.Proofs.YtegjelaejbacnaaGreat.Fl
namespace Go.Proofs.YtegjelaejbacnaaGreat
open Fl
theorem t4 (l c:Int) (w:World) :
 Calls Tryz.prog 181 #[.agg #[.int .i64 l,.int .i64 c]] w fun e w'=>e=.returned (.complex .f64 (F l) (F c))/\Below w.heap.size w w':=by
 go_enter Tryz.func181,Tryz.ntmps181;go_wp2;go_ret;exact ⟨rfl,(Below.refl _ _).alloc (Nat.le_refl _) _⟩
theorem xS (l c:Nat) (w:World) (h:l<=3) (h':c<=15) :
 Calls Tryz.prog 182 #[.complex .f64 (F l) (F c)] w fun e w'=>e=.returned (.bool true)/\w=w':=by
 have h1:=Gr l Ha Ha;have h2:=Js l Ha Ha;have h3:=Gr c Ha Ha;have h4:=G5 c Ha Ha;go_enter Tryz.func182,Tryz.ntmps182;go_wp2;go_ret;exact ⟨rfl,rfl⟩
abbrev bad (l c:Int):Prop:=l<0\/3<l\/c<0\/15<c
theorem EW (l c:Nat) (w:World) (h:l<=3) (h':c<=15) :
 Calls Tryz.prog 150 #[.agg #[.int .i64 l,.int .i64 c]] w fun e w'=>e=.returned (.tuple #[.int .u8 ((l*16+c:Nat):Int),.bool true])/\Below w.heap.size w w':=by
 have m:∀ w:World,(binOp .mul 175 (.float .f64 (F l)) (.float .f64 4625196817309499392)).run Tryz.prog w=.ok (.float .f64 (F (l*16))) w:=fun w=>run_float_arith w .mul 175 .f64 _ _ _ (ES l Ha);have a:∀ w:World,(binOp .add 175 (.float .f64 (F (l*16))) (.float .f64 (F c))).run Tryz.prog w=.ok (.float .f64 (F (l*16+c))) w:=fun w=>run_float_arith w .add 175 .f64 _ _ _ (EU l c Ha Ha);have k2:∀ w:World,(convert 175 5 (.float .f64 (F (l*16+c)))).run Tryz.prog w=.ok (.int .u8 (l*16+c)) w:=fun w=>K5 (P:=Tryz.prog) 175 5 Hc Hc (l*16+c) Ha w;go_enter Tryz.func150,Tryz.ntmps150;go_wp2_with (first | (go_at_call 181;refine (t4 _ _ _).mono ?_;rintro e w' ⟨rfl,hb⟩) | (go_at_call 182;refine (xS _ _ _ Ha Ha).mono ?_;rintro e w' ⟨rfl,rfl⟩))
 go_ret2
 exact ⟨Hb,((Below.refl _ _).alloc (Nat.le_refl _) _).trans (hb.mono Hb)⟩
open Fx
def ll (s:Nat × Nat) (x:Int):Nat × Nat:=((s.1+x.toNat)%65521,(s.2+(s.1+x.toNat)%65521)%65521)
def dZ (bs:List Int):Nat × Nat:=bs.foldl ll (1,0)
def nV (bs:List Int):Nat:=(dZ bs).2*65536+(dZ bs).1
theorem xT (s:Nat × Nat) (x:Int):(ll s x).1<65521/\(ll s x).2<65521:=by
 unfold ll;exact ⟨Nat.mod_lt _ Ha,Nat.mod_lt _ Ha⟩
theorem pM (bs:List Int) (x:Int):dZ (bs++[x])=ll (dZ bs) x:=by unfold dZ;rw [List.foldl_append];rfl
theorem vy (bs:List Int):(dZ bs).1<65521/\(dZ bs).2<65521:=by
 rcases List.eq_nil_or_concat bs with rfl | ⟨l,x,rfl⟩
 ·unfold dZ;simp
 ·rw [List.concat_eq_append,pM];exact xT _ _
theorem zv (bs:List Int):nV bs<4294967296:=by have:=vy bs;unfold nV;omega
theorem vz (n:Nat) (h:n<131042) (w:World) :
 Calls Tryz.prog 214 #[.float .f64 (fb n)] w fun e w'=>e=.returned (.float .f64 (fb (n%65521)))/\w=w':=by
 have g:=Gp n 65521 Ha Ha;rw [CG] at g;by_cases h1:65521<=n
 ·have s:=fun w:World=>run_float_arith (P:=Tryz.prog) w .sub 175 .f64 _ _ _ (GW n 65521 Ha h1);rw [CG] at s;have e:n-65521=n%65521:=Ha;rw [e] at s;rw [decide_eq_true h1] at g;clear e h1;generalize hm:n%65521=m at *;clear hm;go_enter Tryz.func214,Tryz.ntmps214;go_wp2;go_ret;exact ⟨rfl,rfl⟩
 ·have e:n%65521=n:=Nat.mod_eq_of_lt Ha;rw [e];rw [decide_eq_false h1] at g;clear e h1;go_enter Tryz.func214,Tryz.ntmps214;go_wp2;go_ret;exact ⟨rfl,rfl⟩
theorem CQ (a c x:Nat) (ha:a<65521) (hc:c<65521) (hx:x<256) (w:World) :
 Calls Tryz.prog 208 #[.complex .f64 (fb a) (fb c),.int .u8 x] w fun e w'=>e=.returned (.complex .f64 (fb ((a+x)%65521)) (fb ((c+(a+x)%65521)%65521)))/\w=w':=by
 have s1:∀ w:World,(binOp .add 175 (.float .f64 (fb a)) (.float .f64 (floatOfInt .f64 (x:Int)))).run Tryz.prog w=_:=fun w:World=>run_float_arith (P:=Tryz.prog) w .add 175 .f64 _ _ _ (xK a x Ha);have f1:=fun w:World=>vz (a+x) Ha w;generalize hm:(a+x)%65521=m at *;have hm':m<65521:=Ha;have s2:=fun w:World=>run_float_arith (P:=Tryz.prog) w .add 175 .f64 _ _ _ (xK c m Ha);have f2:=fun w:World=>vz (c+m) Ha w;generalize hm:(c+m)%65521=m2 at *;clear hm;generalize hy:a+x=y at *;clear hy;have F1:=He f1;have F2:=He f2;clear f1 f2;go_enter Tryz.func208,Tryz.ntmps208;go_wp2_with fail
 refine (F1.out _).mono ?_;rintro e w' ⟨rfl,rfl⟩;go_wp2_with fail
 refine (F2.out _).mono ?_;rintro e w' ⟨rfl,rfl⟩;go_wp2_with fail
 go_ret;exact ⟨rfl,rfl⟩
theorem zw (A:Option Addr) (bs:List Int) (n d:Nat) (w:World) (hn:bs.length=n) (hl:n<=1000000) (hB:ax bs) (hy:dD w A bs) :
 Calls Tryz.prog 187 #[.slice A n d] w fun e w'=>e=.returned (.int .u32 (nV bs))/\w=w':=by
 have HY:=He hy;have HN:=He hn;have HB:=He hB;clear hn hB hy;go_enter Tryz.func187,Tryz.ntmps187;go_wp2
 go_loop [3,8] (fun z i=>∃ k:Nat,k<=n/\i=.int .i64 k/\z=.complex .f64 (fb (dZ (bs.take k)).1) (fb (dZ (bs.take k)).2)) (fun _ i=>n-(intOf i).toNat)
 case atStart=>exact ⟨0,Nat.zero_le _,rfl,by rw [show dZ (bs.take 0)=(1,0) from rfl,GX,tV]⟩
 case round =>
  obtain ⟨k,hk,rfl,rfl⟩:=hrel;have hlt2:=vy (bs.take k);by_cases hlt:k<n
  ·obtain ⟨x,hx⟩:∃ x,bs[k]?=some x:=⟨_,List.getElem?_eq_getElem (by rw [HN.out];exact hlt)⟩
   obtain ⟨ad,rfl,hc0⟩:=HY.out k x hx;have hxb:=HB.out x (List.mem_of_getElem? hx);obtain ⟨y,rfl⟩:∃ y:Nat,x=(y:Int):=⟨x.toNat,Ha⟩
   have hyb:y<256:=Ha;have HS:Hid (dZ (bs.take (k+1))=(((dZ (bs.take k)).1+y)%65521,((dZ (bs.take k)).2+((dZ (bs.take k)).1+y)%65521)%65521)):=by
    rw [au hx,pM];unfold ll;rw [Int.toNat_natCast];exact rfl
   have HF:Hid (∀ w,_):=fun w:World=>CQ _ _ y hlt2.1 hlt2.2 hyb w;clear hx hxb hlt2;generalize (dZ (bs.take k)).1=a at *;generalize (dZ (bs.take k)).2=c at *;go_wp2_with fail
   refine (HF.out _).mono ?_;rintro e w' ⟨rfl,rfl⟩;go_wp2_with fail
   go_round
   case rel=>exact ⟨k+1,Ha,by go_num,by rw [HS.out];simp only [Nat.add_mod_mod]⟩
   case measure=>simp [intOf];omega
  ·have e:bs.take k=bs:=List.take_of_length_le (by rw [HN.out];omega);rw [e] at hlt2 ⊢;have v1:=fun w:World=>run_convert_float_int w 175 80 .f64 .u32 _ _ (P:=Tryz.prog) Hc Tryz.underlying80 (CF (dZ bs).1 Ha);have v2:=fun w:World=>run_convert_float_int w 175 80 .f64 .u32 _ _ (P:=Tryz.prog) Hc Tryz.underlying80 (CF (dZ bs).2 Ha);have HV:Hid (nV bs=(dZ bs).2*65536+(dZ bs).1):=He rfl;have b1:=hlt2.1;have b2:=hlt2.2;clear hlt2 e;generalize (dZ bs).1=a at *;generalize (dZ bs).2=c at *;have u1:IntKind.u32.wrap ((c:Int)*65536)=(c:Int)*65536:=IntWalk.u32_in _ Ha;have u2:IntKind.u32.wrap ((c:Int)*65536+a)=(c:Int)*65536+a:=IntWalk.u32_in _ Ha;go_wp2;go_ret;exact ⟨kX (by rw [HV.out];omega),rfl⟩
theorem EX {W:World} {C:Array Value} {t:TypeId} {fr:Nat × Nat} {bs:List Int} (hc:C.toList=Bs bs):dD (W.alloc (.cells C t fr)) (some ⟨W.heap.size,0,none⟩) bs :=
 dS (heap_alloc_new W (.cells C t fr)) hc
theorem pO (w:World) (base:Nat) (v:Value) (m:Nat) (xs:List Int) (n s:Nat) (hown:w.ownsRow base 5 1 v m (Bs xs)) (hbase:base<=w.heap.size) (hm:m<=900000) (hs:s<=4) (hn:n<4294967296) :
 Calls Tryz.prog 186 #[v,.int .u32 n,.int .i64 s] w fun e w'=>∃ v',e=.returned v'/\w'.ownsRow base 5 1 v' (m+s) (Bs (xs++be n s))/\Below base w w':=by
 have HO:=He hown;clear hown;go_enter Tryz.func186,Tryz.ntmps186;go_wp2;refine aV (fun a' w'=>∃ (k:Nat) (v1:Value) (ys:List Int),k<=s/\Hid (w'.ownsRow base 5 1 v1 (m+(s-k)) (Bs (xs++ys))/\ys++be n k=be n s/\Below base w w')/\∃ u7 u8 u9 u10 u11 u12 u13 u14 u15 u16 u17 u18 u19:Value,a'={ tmps:=#[v1,.int .u32 n,.int .i64 k,undef,undef,undef,.slice none 0 0,u7,u8,u9,u10,u11,u12,u13,u14,u15,u16,u17,u18,u19],defers:=[] })
  (fun a' _=>(intOf (a'.tmps.getD 2 undef)).toNat) rfl ?_ ?_
 ·intro HF;go_wp2;go_step3;rename_i hK;exact hK _ _ (HF _ _ ⟨s,v,[],Nat.le_refl _,⟨by simpa using HO.out,rfl,Below.refl _ _⟩,_,_,_,_,_,_,_,_,_,_,_,_,_,rfl⟩)
 ·rintro a' W ⟨k,v1,ys,hk,HH,u7,u8,u9,u10,u11,u12,u13,u14,u15,u16,u17,u18,u19,rfl⟩;by_cases hk0:k=0
  ·subst hk0;go_wp2;simp only [Exit.jump];go_ret;obtain ⟨h1,h2,h3⟩:=HH.out;exact ⟨_,rfl,by rw [<- h2];simpa [be] using h1,h3⟩
  ·obtain ⟨j,rfl⟩:∃ j,k=j+1:=⟨k-1,Ha⟩
   have hq:(((j+1:Nat):Int)==0)=false:=by simp;omega
   have hj:j<4:=Ha;have hsz:base<=W.heap.size:=Nat.le_trans hbase HH.out.2.2.size;have hstep:∀ x:Int,x=((n/256 ^ j%256:Nat):Int)->∀ (W':World) (v':Value),W'.ownsRow base 5 1 v' (m+(s-(j+1))+1) (Bs ((xs++ys)++[x]))->Below base W W'->W'.ownsRow base 5 1 v' (m+(s-j)) (Bs (xs++(ys++[x])))/\(ys++[x])++be n j=be n s/\Below base w W':=by
    intro x hx W' v' h1 h2;refine ⟨?_,?_,HH.out.2.2.trans h2⟩
    ·rw [show m+(s-j)=m+(s-(j+1))+1 by omega,<- List.append_assoc];exact h1
    ·rw [<- HH.out.2.1,hx,List.append_assoc];rfl
   have HS:=He hstep;clear hstep;have hsj:((j+1:Nat):Int)-1=j:=Ha;have HL:Hid (m+(s-(j+1))+1<=1000000):=by unfold Hid;omega
   rcases (show j=0\/j=1\/j=2\/j=3 by omega) with rfl | rfl | rfl | rfl
   all_goals
    go_wp2_with (first
     | (at_builtin
        refine bU _ rfl (.tmp 12) (.tmp 18) rfl base v1 (m+(s-_)) (xs++ys) rfl (HH.out.1.alloc _) (some ⟨W.heap.size,0,none⟩) 1 1 [_] rfl (dS (heap_alloc_new _ _) rfl) rfl HL.out (by rw [ak];omega) ?_;intro v2 w2 h2 hg2 _;have hB2:Below base W w2:=(((Below.refl _ _).alloc hsz _).grown hg2 (by rw [ak];omega) (fun k hk=>(HH.out.1.lt k hk).1))
        have H2:=He h2;clear h2 hg2))
    go_step3;refine ⟨rfl,⟨_,v2,ys++[_],Ha,HS.out _ ?_ _ _ H2.out hB2,_,_,_,_,_,_,_,_,_,_,_,_,_,rfl⟩,?_⟩
    ·first
      | (rw [Int.natCast_emod,Int.natCast_ediv];rfl)
      | (simp;done)
      | (simp;omega)
    ·simp [intOf]
def mf (k t:Int):Prop:=(0<=k/\k<=7)/\0<=t/\t<200
instance (k t:Int):Decidable (mf k t):=by unfold mf;infer_instance
def jk (l k:Int) (t:Nat) (bs:List Int):List Int:=[k,l]++be t 2++bs
def cC (l k:Int) (t:Nat) (bs:List Int):List Int:=jk l k t bs++be (nV (jk l k t bs)) 4
theorem mT {l k:Int} {t:Nat} {bs:List Int} (h:bs.length=56):(jk l k t bs).length=60:=by unfold jk;simp [av,h]
theorem fE {l k:Int} {t:Nat} {bs:List Int} (h:bs.length=56):(cC l k t bs).length=64:=by unfold cC;rw [List.length_append,mT h,av]
theorem pP {l k:Int} {t:Nat} {bs:List Int} (hl:0<=l/\l<=255) (hk:0<=k/\k<=7) (hB:ax bs):ax (jk l k t bs):=by
 unfold jk;refine ax.append (ax.append (fun x hx=>?_) (cm _ _)) hB;simp only [List.mem_cons,List.not_mem_nil,or_false] at hx;rcases hx with rfl | rfl <;> omega
theorem mg {l k:Int} {t:Nat} {bs:List Int} (hl:0<=l/\l<=255) (hk:0<=k/\k<=7) (hB:ax bs):ax (cC l k t bs) :=
 ax.append (pP hl hk hB) (cm _ _)
theorem EY (l k t:Int) (C:Array Value) (bs:List Int) (w:World) (hl:0<=l/\l<=255) (hk:i64 k) (ht:i64 t) (hC:C.toList=blkL k bs) (hno:¬ mf k t) :
 Calls Tryz.prog 152 #[.int .u8 l,.int .i64 t,.agg C] w fun e w'=>e=.returned (.tuple #[.slice none 0 0,.bool false])/\Below w.heap.size w w':=by
 have hblk:=heap_alloc_new w (Obj.cells C 37);have c0:=ky hblk hC;have hbel:Below w.heap.size w (w.alloc (Obj.cells C 37)):=(Below.refl _ _).alloc (Nat.le_refl _) _;have HC:=He hC;clear hblk hC;go_enter Tryz.func152,Tryz.ntmps152;go_wp2;refine aV (fun a' w'=>w'=w.alloc (Obj.cells C 37)/\∃ u9 u10 u11 u12 u13 u14 u15 u16 u17 u18 u19 u20 u21 u22 u23 u24 u25 u26 u27 u28 u29 u30 u31 u32 u33 u34 u35 u36 u37 u38 u39 u40 u41 u42 u43:Value,a'={ tmps:=#[.int .u8 l,.int .i64 t,.agg C,undef,undef,.pointer (some ⟨w.heap.size,0,none⟩),.slice none 0 0,.bool false,.slice none 0 0,u9,u10,u11,u12,u13,u14,u15,u16,u17,u18,u19,u20,u21,u22,u23,u24,u25,u26,u27,u28,u29,u30,u31,u32,u33,u34,u35,u36,u37,u38,u39,u40,u41,u42,u43],defers:=[] }) (fun _ _=>0) rfl ?_ ?_
 ·intro _;by_cases h1:k<0
  ·go_wp2;go_step3;exact ⟨rfl,rfl,_,_,_,_,_,_,_,_,_,_,_,_,_,_,_,_,_,_,_,_,_,_,_,_,_,_,_,_,_,_,_,_,_,_,_,rfl⟩
  ·by_cases h2:7<k
   ·go_wp2;go_step3;exact ⟨rfl,rfl,_,_,_,_,_,_,_,_,_,_,_,_,_,_,_,_,_,_,_,_,_,_,_,_,_,_,_,_,_,_,_,_,_,_,_,rfl⟩
   ·by_cases h3:t<0
    ·go_wp2;go_step3;exact ⟨rfl,rfl,_,_,_,_,_,_,_,_,_,_,_,_,_,_,_,_,_,_,_,_,_,_,_,_,_,_,_,_,_,_,_,_,_,_,_,rfl⟩
    ·have h4:200<=t:=by unfold mf at hno;omega
     go_wp2;go_step3;exact ⟨rfl,rfl,_,_,_,_,_,_,_,_,_,_,_,_,_,_,_,_,_,_,_,_,_,_,_,_,_,_,_,_,_,_,_,_,_,_,_,rfl⟩
 ·rintro a' W ⟨rfl,u9,u10,u11,u12,u13,u14,u15,u16,u17,u18,u19,u20,u21,u22,u23,u24,u25,u26,u27,u28,u29,u30,u31,u32,u33,u34,u35,u36,u37,u38,u39,u40,u41,u42,u43,rfl⟩;go_wp2;simp only [Exit.jump]
  go_ret2
  exact ⟨rfl,hbel⟩
theorem vA (l k:Int) (n:Nat) (C:Array Value) (bs:List Int) (w:World) (hl:0<=l/\l<=255) (hk:0<=k/\k<=7) (hn:n<200) (hC:C.toList=blkL k bs) (h56:bs.length=56) (hB:ax bs) :
 Calls Tryz.prog 152 #[.int .u8 l,.int .i64 n,.agg C] w fun e w'=>∃ v,e=.returned (.tuple #[v,.bool true])/\w'.ownsRow w.heap.size 5 1 v 64 (Bs (cC l k n bs))/\Below w.heap.size w w':=by
 have hblk:=heap_alloc_new w (Obj.cells C 37);have c0:=ky hblk hC;have hby:=CC hblk hC;have hbel:Below w.heap.size w (w.alloc (Obj.cells C 37)):=(Below.refl _ _).alloc (Nat.le_refl _) _;obtain ⟨i0,hi,hz0,hz1,hz2⟩:=info_parts iT;have hmk:=fun w:World=>run_make (P:=Tryz.prog) w 22 5 i0 _ Tryz.underlying22 hi hz0 .i64 .i64 0 64 Ha Ha (by rw [hz2];omega) Ha;generalize hM:madeCells (Value.int .u8 0).cells ((64:Int).toNat*i0.size)=M at hmk;have HM:Hid (M.size=64*1):=by rw [<- hM,size_madeCells,hz1];unfold Hid;simp
 rw [show ((64:Int)).toNat=64 by omega,show ((0:Int)).toNat=0 by omega] at hmk;have HBL:=He hblk;have HBY:=He hby
 have hwk:IntKind.u8.wrap k=k:=IntWalk.u8_in _ Ha;have hwn:IntKind.u32.wrap (n:Int)=n:=IntWalk.u32_in _ Ha;have HB:=He (pP (t:=n) hl hk hB);have HLH:=He (mT (l:=l) (k:=k) (t:=n) h56);have HSV:=He (zv (jk l k n bs));have H56:=He h56;have hg0:w.heap.size<(w.alloc (Obj.cells C 37)).heap.size:=by rw [ak];omega
 clear hblk hC hby hM hi hz0 hz1 hz2;go_enter Tryz.func152,Tryz.ntmps152;go_wp2;have hk0:¬ k<0:=Ha;have hk7:¬ 7<k:=Ha;have hd1:decide ((n:Int)<0)=false:=decide_eq_false Ha;have hd2:decide (200<=(n:Int))=false:=decide_eq_false Ha;generalize w.alloc (Obj.cells C 37)=W0 at *;have own0:=World.ownsRow_made (e:=5) (size:=1) W0 M 64 (Nat.le_refl W0.heap.size) (by simp only [maxLen];omega) HM.out;have B0:Below W0.heap.size W0 (W0.alloc (Obj.cells M 5)):=(Below.refl _ _).alloc (Nat.le_refl _) _;refine aV (fun _ _=>False) (fun _ _=>0) rfl ?_ (fun _ _ h=>h.elim);intro _;go_wp2_with (first
  | (at_builtin
     refine bU _ rfl (.tmp 24) (.tmp 29) rfl W0.heap.size _ 0 [] rfl (own0.alloc _) (some ⟨(W0.alloc (Obj.cells M 5)).heap.size,0,none⟩) 2 2 [k,l] (by rw [ak];rfl) (dS (heap_alloc_new _ _) rfl) rfl Ha ((B0.alloc B0.size _).size) ?_;intro v1 w1 h1 hg1 _;have B1:Below W0.heap.size W0 w1:=(B0.alloc B0.size _).grown hg1 (B0.alloc B0.size _).size (fun j hj=>(own0.lt j hj).1);have own1:w1.ownsRow W0.heap.size 5 1 v1 2 (Bs [k,l]):=h1;clear h1 hg1 own0 B0))
 refine (pO w1 W0.heap.size v1 2 [k,l] n 2 own1 B1.size Ha Ha Ha).mono ?_;rintro e w2 ⟨v2,rfl,own2,hb2⟩;have B2:=B1.trans hb2;clear own1 B1 hb2;go_wp2_with (first
  | (at_builtin
     refine bU _ rfl (.tmp 35) (.tmp 37) rfl W0.heap.size v2 4 _ rfl own2 (some ⟨w.heap.size,1,none⟩) 56 56 bs rfl (HBY.out.keep B2) H56.out Ha B2.size ?_;intro v3 w3 h3 hg3 _;have B3:Below W0.heap.size W0 w3:=B2.grown hg3 B2.size (fun j hj=>(own2.lt j hj).1);have own3:w3.ownsRow W0.heap.size 5 1 v3 60 (Bs (jk l k n bs)):=h3;clear h3 hg3 own2 B2))
 obtain ⟨A3,d3,rfl,hle3,hd3,hy3⟩:=bN own3 HLH.out;rw [HLH.out] at own3 hle3 ⊢;refine (zw A3 (jk l k n bs) 60 d3 w3 HLH.out Ha HB.out hy3).mono ?_;rintro e w4 ⟨rfl,rfl⟩;have HY3:=He hy3;have HSE:Hid (cC l k n bs=jk l k n bs++be (nV (jk l k n bs)) 4):=He rfl;clear hy3;generalize nV (jk l k n bs)=sv at *;go_wp2_with fail
 refine (pO w3 W0.heap.size _ 60 (jk l k n bs) sv 4 own3 B3.size Ha Ha HSV.out).mono ?_;rintro e w4 ⟨v4,rfl,own4,hb4⟩;go_wp2_with fail
 try simp only [Exit.jump]
 go_ret2
 exact ⟨v4,rfl,by rw [HSE.out];exact own4.mono (Nat.le_of_lt hg0),hbel.trans ((B3.trans hb4).mono (Nat.le_of_lt hg0))⟩
section
variable {ops:Array Oper} {rest:List Oper} {o:Oper} {a:Act} {w:World} {Q:Exit->Act->World->Prop}
theorem AP (w:World) (ty:TypeId) (g:Nat) (k:Int) (bs ys:List Int) (hg:w.heap[g]?=some (.cells (ab k bs) 37 (0,0))) (hb:bs.length=56) (ad:Addr) (m c:Nat) (hm:56<=m) (hy:ys.length=56) (hsrc:dD w (some ad) ys) :
 (Builtin.copy_ #[22,22] ty #[.slice (some ⟨g,1,none⟩) 56 56,.slice (some ad) m c]).run Tryz.prog w=.ok (goInt 56) (w.setRow g (ab k ys)):=by
 obtain ⟨i0,hi,hz0,hz1,hz2⟩:=info_parts iT;have h:=run_copy_row Tryz.prog w 22 22 ty 5 g 1 56 56 ad m c (ab k bs) 37 (Bs ys) Tryz.underlying22 (by rw [hi];simp [hz1]) hg (by rw [ar,hy];simp [Nat.min_def];omega)
  (fun j v hj=>by
    unfold Bs at hj;rw [List.getElem?_map] at hj;obtain ⟨x,hx,rfl⟩:=Option.map_eq_some_iff.1 hj;obtain ⟨a',e,hc⟩:=hsrc j x hx;injection e with e;subst e;exact hc) (by rw [ar,aN hb,hy];decide) (gQ _)
 rw [h,ar,hy]
 congr 2
 rw [bp];have e:(blkL k bs).drop (1+56)=[]:=List.drop_of_length_le (by unfold blkL;simp [ar,hb]);rw [e];unfold ab blkL;simp
theorem t5 (hgd:o.guard=none) (s x:Operand) (ho:o.op=.call { callee:=.builtin .copy,args:=#[s,x],argTypes:=#[22,22] })
 (g:Nat) (k:Int) (bs ys:List Int) (hs:a.eval s=.slice (some ⟨g,1,none⟩) 56 56) (hg:w.heap[g]?=some (.cells (ab k bs) 37 (0,0))) (hb:bs.length=56) (ad:Addr) (m c:Nat) (hx:a.eval x=.slice (some ad) m c) (hm:56<=m) (hy:ys.length=56) (hsrc:dD w (some ad) ys)
 (h:wpList Tryz.prog ops Q rest (a.put o.dst (goInt 56)) (w.setRow g (ab k ys))):wpList Tryz.prog ops Q (o :: rest) a w :=
 wpList_plain hgd fun _ hK=>by
  unfold Oper.wp execOp;simp only [ho,resolve,invoke,builtin,Sem.run_bind,Sem.run_pure,Result.andThen_ok,List.map_toArray,List.map_cons,List.map_nil,hs,hx,AP w o.type g k bs ys hg hb ad m c hm hy hsrc];exact hK _ _ h
end
theorem nW (A B:Option Addr) (xs ys:List Int) (n m c d:Nat) (w:World) (hn:xs.length=n) (hm:ys.length=m) (hx:ax xs) (hy:ax ys) (bx:dD w A xs) (by_:dD w B ys) :
 Calls Tryz.prog 194 #[.slice A n c,.slice B m d] w fun e w'=>e=.returned (.bool (decide (xs=ys)))/\w=w':=by
 have h1:=dY (c:=c) bx hn;have h2:=dY (c:=d) by_ hm;have HB:=He (kZ hx hy);clear bx by_ hn hm;generalize strOfNums xs=s1 at *;generalize strOfNums ys=s2 at *;go_enter Tryz.func194,Tryz.ntmps194;go_wp2;go_ret;exact ⟨aj HB.out,rfl⟩
def Ew (xs:List Int):Int:=xs.getD 0 0
def ij (xs:List Int):List Int:=(xs.drop 4).take 56
def lQ (l t:Int) (xs:List Int):Prop:=xs.length=64/\mf (Ew xs) t/\cC l (Ew xs) t.toNat (ij xs)=xs
instance (l t:Int) (xs:List Int):Decidable (lQ l t xs):=by unfold lQ;infer_instance
def oH (l t:Int) (xs:List Int):Array Value:=if lQ l t xs then ab (Ew xs) (ij xs) else ab 0 ay
theorem pQ {xs:List Int} (h:xs.length=64):(ij xs).length=56:=by unfold ij;simp [h]
theorem nX {xs:List Int} (h:ax xs):ax (ij xs):=fun x hx=>h x (List.mem_of_mem_drop (List.mem_of_mem_take hx))
theorem sr (x k:Int) (bs:List Int):(ab k bs).setIfInBounds 0 (.int .i64 x)=ab x bs:=by unfold ab blkL;simp
theorem CR (l t:Int) (A:Option Addr) (xs:List Int) (c:Nat) (w:World) (hl:0<=l/\l<=255) (ht:i64 t) (hc:xs.length<=c) (hc2:c<=9223372036854775807) (hB:ax xs) (hy:dD w A xs) :
 Calls Tryz.prog 197 #[.int .u8 l,.int .i64 t,.slice A xs.length c] w fun e w'=>e=.returned (.tuple #[.agg (oH l t xs),.bool (decide (lQ l t xs))])/\Below w.heap.size w w':=by
 have HY:=He hy;have HB:=He hB;have hm0:=heap_alloc_new w (Obj.cells (ab 0 ay) 37);have hbel0:Below w.heap.size w (w.alloc (Obj.cells (ab 0 ay) 37)):=(Below.refl _ _).alloc (Nat.le_refl _) _;have hsz0:=ak w (Obj.cells (ab 0 ay) 37);clear hy hB;generalize hn:xs.length=n at *;have HN:=He hn;clear hn;go_enter Tryz.func197,Tryz.ntmps197;go_wp2_with (first
  | (refine aq rfl rfl ?_))
 generalize w.alloc (Obj.cells (ab 0 ay) 37)=W1 at *;have HM0:=He hm0;have hszW:W1.heap.size=w.heap.size+1:=hsz0;have HY1:=He (HY.out.keep hbel0);clear hm0;refine aV (fun a' w'=>Hid (Below w.heap.size w w'/\w'.heap[w.heap.size]?=some (.cells (ab 0 ay) 37 (0,0))/\¬ lQ l t xs)/\∃ u0 u1 u2 u3 u4 u5 u7 u8 u9 u10 u11 u12 u13 u14 u15 u16 u17 u18 u19 u20 u21 u22 u23 u24 u25 u26 u27 u28 u29 u30 u31 u32 u33 u34 u35 u36 u37 u38:Value,a'={ tmps:=#[u0,u1,u2,u3,u4,u5,.pointer (some ⟨w.heap.size,0,none⟩),u7,u8,u9,u10,u11,u12,u13,u14,u15,u16,u17,u18,u19,u20,u21,u22,u23,u24,u25,u26,u27,u28,u29,u30,u31,u32,u33,u34,u35,u36,u37,u38],defers:=[] }) (fun _ _=>0) rfl ?_ ?_
 ·intro _;have HM2:=He (heap_alloc_new W1 (Obj.cells (ab 0 ay) 37));have HM02:Hid ((W1.alloc (Obj.cells (ab 0 ay) 37)).heap[w.heap.size]?=some (.cells (ab 0 ay) 37 (0,0))):=by
   unfold Hid;rw [heap_alloc_old W1 _ Ha];exact HM0.out
  have HBL2:=He (hbel0.alloc hbel0.size (Obj.cells (ab 0 ay) 37));by_cases h64:n=64
  ·subst h64;obtain ⟨x0,hx0⟩:∃ x0,xs[0]?=some x0:=⟨_,List.getElem?_eq_getElem (by rw [HN.out];omega)⟩
   obtain ⟨ad,rfl,hc0⟩:=(HY1.out.alloc (Obj.cells (ab 0 ay) 37)) 0 x0 hx0;have ea:ad.add 0=ad:=by unfold Addr.add;simp
   rw [ea] at hc0;have hxb:=HB.out x0 (List.mem_of_getElem? hx0);have hk:Ew xs=x0:=by unfold Ew;rw [List.getD,hx0];rfl
   have HKX:=He hk;have cz:=ky HM2.out (bp 0 ay);have fz:(W1.alloc (Obj.cells (ab 0 ay) 37)).frozen? ⟨W1.heap.size,0,none⟩=false:=az HM2.out 0;clear hx0 ea hk;go_wp2_with (first
    | (refine aq rfl rfl ?_))
   rw [sr,<- hszW];have HM3:=He (heap_alloc_new W1 (Obj.cells (ab x0 ay) 37));have HM03:Hid ((W1.alloc (Obj.cells (ab x0 ay) 37)).heap[w.heap.size]?=some (.cells (ab 0 ay) 37 (0,0))):=by
    unfold Hid;rw [heap_alloc_old W1 _ Ha];exact HM0.out
   have HBL3:=He (hbel0.alloc hbel0.size (Obj.cells (ab x0 ay) 37));have HY3:=He (HY1.out.alloc (Obj.cells (ab x0 ay) 37));rw [hszW] at HM3;clear HM2 HM02 HBL2 cz fz hc0 hbel0 hszW;generalize W1.alloc (Obj.cells (ab x0 ay) 37)=W2 at *
   go_still_tail 4,Hc
   change wpList _ _ _ _ _ W2.drew;rw [if_neg (show ¬ c=4 by omega)];have HM3':Hid (W2.drew.heap[w.heap.size+1]?=some (.cells (ab x0 ay) 37 (0,0))):=HM3;have HM03':Hid (W2.drew.heap[w.heap.size]?=some (.cells (ab 0 ay) 37 (0,0))):=HM03;have HBL3':Hid (Below w.heap.size w W2.drew):=HBL3.out.drew;have HY3':Hid (dD W2.drew (some ⟨ad.block,ad.off+4,none⟩) (ij xs)):=fun i x hi=>by
    unfold ij at hi;have hi2:xs[4+i]?=some x:=by
     rw [List.getElem?_take] at hi;split at hi
     ·rwa [List.getElem?_drop] at hi
     ·cases hi
    obtain ⟨ad',e,h⟩:=HY3.out _ _ hi2;injection e with e;subst e
    refine ⟨_,rfl,?_⟩;rw [dp];rw [show 4+i=(3+i)+1 by omega,kY] at h;rw [show ad.off+4+i=ad.off+(3+i+1) by omega];exact h
   clear HM3 HM03 HBL3 HY3;generalize W2.drew=W3 at *;have HM4:=He (am (D:=ab x0 (ij xs)) HM3'.out);have HM04:Hid ((W3.setRow (w.heap.size+1) (ab x0 (ij xs))).heap[w.heap.size]?=some (.cells (ab 0 ay) 37 (0,0))):=by
    unfold Hid;rw [setRow_other W3 _ _ _ Ha];exact HM03'.out
   have HBL4:=He (below_setRow HBL3'.out (show w.heap.size<=w.heap.size+1 by omega) (ab x0 (ij xs)));have HY4:=He (HY.out.keep HBL4.out);have h56:=pQ HN.out;have H56:=He h56;refine t5 rfl (.tmp 20) (.tmp 22) rfl (w.heap.size+1) x0 ay (ij xs) rfl HM3'.out al ⟨ad.block,ad.off+4,none⟩ 60 (c-4) rfl Ha h56 HY3'.out ?_;generalize W3.setRow (w.heap.size+1) (ab x0 (ij xs))=W4 at *;clear HM3' HM03' HBL3' HY3';go_wp2_with (first
    | (refine aQ rfl (.tmp 8) rfl (w.heap.size+1) rfl x0 (ij xs) H56.out HM4.out ?_))
   by_cases hmay:mf x0 t
   ·obtain ⟨m,rfl⟩:∃ m:Nat,t=(m:Int):=⟨t.toNat,by unfold mf at hmay;omega⟩
    refine (vA l x0 m _ (ij xs) W4 hl hmay.1 (by unfold mf at hmay;omega) (bp _ _) H56.out (nX HB.out)).mono ?_;rintro e W5 ⟨v5,rfl,own5,hb5⟩;obtain ⟨A5,d5,rfl,hle5,hd5,hy5⟩:=bN own5 (fE H56.out);rw [fE H56.out];have HE:=He (nW A5 (some ad) (cC l x0 m (ij xs)) xs 64 64 d5 c W5 (fE H56.out) HN.out (mg hl hmay.1 (nX HB.out)) HB.out hy5 (HY4.out.keep hb5));have HM5:Hid (W5.heap[w.heap.size+1]?=some (.cells (ab x0 (ij xs)) 37 (0,0))):=by
     unfold Hid;rw [hb5.block _ (ai HM4.out)];exact HM4.out
    have HM05:Hid (W5.heap[w.heap.size]?=some (.cells (ab 0 ay) 37 (0,0))):=by
     unfold Hid;rw [hb5.block _ (ai HM04.out)];exact HM04.out
    have HBL5:=He (aP HBL4.out hb5);have HMAY:=He hmay;clear own5 hy5 hb5 hmay;go_wp2_with fail
    refine HE.out.mono ?_;rintro e W6 ⟨rfl,rfl⟩;by_cases hq:cC l x0 m (ij xs)=xs
    ·have hop:lQ l m xs:=⟨HN.out,by rw [HKX.out];exact HMAY.out,by rw [HKX.out,Int.toNat_natCast];exact hq⟩
     rw [decide_eq_true hq];have HOP:=He hop;clear hop hq HE;go_wp2_with (first
      | (refine aQ rfl (.tmp 8) rfl (w.heap.size+1) rfl x0 (ij xs) H56.out HM5.out ?_)
      | (refine ap rfl (.tmp 6) (.tmp 37) rfl w.heap.size rfl x0 0 (ij xs) ay rfl H56.out al HM05.out ?_))
     simp only [Exit.jump];refine bodyPost_ret (aT rfl _ _ w.heap.size x0 (ij xs) rfl H56.out (am HM05.out)) rfl ?_;refine ⟨?_,below_setRow HBL5.out (Nat.le_refl _) _⟩;unfold oH;rw [if_pos HOP.out,decide_eq_true HOP.out,HKX.out];rfl
    ·have HQ:=He hq;rw [decide_eq_false hq];clear hq HE;go_wp2_with fail
     go_step3;refine ⟨rfl,⟨HBL5.out,HM05.out,fun h=>HQ.out ?_⟩,_,_,_,_,_,_,_,_,_,_,_,_,_,_,_,_,_,_,_,_,_,_,_,_,_,_,_,_,_,_,_,_,_,_,_,_,_,_,rfl⟩;have h3:=h.2.2;rw [HKX.out,Int.toNat_natCast] at h3;exact h3
   ·refine (EY l x0 t _ (ij xs) W4 hl (by constructor <;> omega) ht (bp _ _) hmay).mono ?_;rintro e W5 ⟨rfl,hb5⟩;have HM05:Hid (W5.heap[w.heap.size]?=some (.cells (ab 0 ay) 37 (0,0))):=by
     unfold Hid;rw [hb5.block _ (ai HM04.out)];exact HM04.out
    have HBL5:=He (aP HBL4.out hb5);have HMAY:=He hmay;clear hb5 hmay;go_wp2_with fail
    go_step3;refine ⟨rfl,⟨HBL5.out,HM05.out,fun h=>HMAY.out ?_⟩,_,_,_,_,_,_,_,_,_,_,_,_,_,_,_,_,_,_,_,_,_,_,_,_,_,_,_,_,_,_,_,_,_,_,_,_,_,_,rfl⟩;have h3:=h.2.1;rw [HKX.out] at h3;exact h3
  ·go_wp2_with (first
    | (refine aq rfl rfl ?_))
   go_step3;refine ⟨rfl,⟨HBL2.out,HM02.out,fun h=>h64 (HN.out.symm.trans h.1)⟩,_,_,_,_,_,_,_,_,_,_,_,_,_,_,_,_,_,_,_,_,_,_,_,_,_,_,_,_,_,_,_,_,_,_,_,_,_,_,rfl⟩
 ·rintro a' W ⟨HH,u0,u1,u2,u3,u4,u5,u7,u8,u9,u10,u11,u12,u13,u14,u15,u16,u17,u18,u19,u20,u21,u22,u23,u24,u25,u26,u27,u28,u29,u30,u31,u32,u33,u34,u35,u36,u37,u38,rfl⟩;have hblk:=HH.out.2.1;go_wp2_with (first
   | (refine bJ rfl rfl ?_)
   | (refine ap rfl (.tmp 6) (.tmp 38) rfl w.heap.size rfl 0 0 ay ay rfl al al hblk ?_))
  simp only [Exit.jump];refine bodyPost_ret (aT rfl _ _ w.heap.size 0 ay rfl al (am hblk)) rfl ?_;refine ⟨?_,below_setRow HH.out.1 (Nat.le_refl _) _⟩;unfold oH;rw [if_neg HH.out.2.2,decide_eq_false HH.out.2.2];rfl
theorem mU (l k:Int) (n:Nat) (bs:List Int):Ew (cC l k n bs)=k:=rfl
theorem nY {l k:Int} {n:Nat} {bs:List Int} (h:bs.length=56):ij (cC l k n bs)=bs:=by
 show (bs++be (nV (jk l k n bs)) 4).take 56=bs;rw [<- h];exact List.take_left
theorem AQ {l l' k:Int} {n m:Nat} {bs:List Int} (h:bs.length=56) (hk:0<=k/\k<=7) (hn:n<200) (hm:m<200):lQ l' m (cC l k n bs)↔l'=l/\m=n:=by
 constructor
 ·rintro ⟨_,_,h3⟩;rw [mU,nY h,Int.toNat_natCast] at h3;have e1:l'=l:=by have:=congrArg (fun x:List Int=>x.getD 1 0) h3;exact this
  have e2:be m 2=be n 2:=by have:=congrArg (fun x:List Int=>(x.drop 2).take 2) h3;exact this
  exact ⟨e1,zg Ha Ha e2⟩
 ·rintro ⟨rfl,rfl⟩;exact ⟨fE h,by rw [mU];exact ⟨hk,Ha⟩,by rw [mU,nY h,Int.toNat_natCast]⟩
section
variable {ops:Array Oper} {rest:List Oper} {o:Oper} {a:Act} {w:World} {Q:Exit->Act->World->Prop}
end
section
variable {H:Type} {enc:TypeId × Value->H} {w:World} {base:Nat} {spare:Nat->Bool} {held:Bool}
end
section
variable {ops:Array Oper} {rest:List Oper} {o:Oper} {a:Act} {w:World} {Q:Exit->Act->World->Prop}
end
end Go.Proofs.YtegjelaejbacnaaGreat
