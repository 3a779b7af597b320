/- For FileLong: contracts and facts, part 6. -/
import Derived.Deep.DeepCutAuto
import Derived.Laws.FloatArith
import Derived.Laws.Cover3
import Derived.Test.YtegjelaejbacnaaGreatRows
import Derived.WalkKit
import Derived.ProofKit
import Derived.OpenShut
import Derived.Outline
import Derived.WalkLawsBesides
import Derived.Laws.Bits64b
import Derived.Deep.RegionHeld3
import Derived.Lib.Hide
import Derived.Lib.SlBytesConst
import Derived.IntWalk
import Derived.Laws.MakeOwn
import Derived.Deep.Onto
import Derived.Laws.CopyRow
import Derived.Laws.ResultCell
import Derived.Laws.Tables
import Derived.Laws.Rows
import Derived.Stop.BytesEq
import Derived.StillTailTactics
import Derived.Laws.BitsAllLaws
import Derived.Test.YtegjelaejbacnaaGreatL01
import Derived.Test.YtegjelaejbacnaaGreatL02
import Derived.Test.YtegjelaejbacnaaGreatL03
import Derived.Test.YtegjelaejbacnaaGreatL05
set_option maxRecDepth 100000
set_option maxHeartbeats 25600000
set_option linter.unusedVariables false
open Go.ChangeShapes Go.WideShapes Go.ChangeAt Go.RowKit Go
namespace Go.Proofs.YtegjelaejbacnaaGreat
open Fx
theorem JW:fb 2=4611686018427387904:=by rw [fb_eq 2 Ha];decide
def mB (a n:Nat):Value:=.complex .f64 (fb a) (fb n)
theorem wY:mB 0 2=.complex .f64 0 4611686018427387904:=by unfold mB;rw [vc,JW]
theorem AU (a n:Nat) (h:a+n<=100000) (w:World) :
 Calls Tryz.prog 91 #[mB a n] w fun e w'=>e=.returned (.float .f64 (fb (a+n)))/\w=w':=by
 have s:=fun w:World=>run_float_arith (P:=Tryz.prog) w .add 175 .f64 _ _ _ (zk a n Ha);unfold mB;generalize a+n=m at *;go_enter Tryz.func91,Tryz.ntmps91;go_wp2;go_ret;exact ⟨rfl,rfl⟩
theorem qJ (a n b:Nat) (h:a+n<=100000) (w:World) :
 Calls Tryz.prog 148 #[mB a n,.int .i64 b] w fun e w'=>e=.returned (mB (a+n) b)/\w=w':=by
 have H:=He (AU a n h);go_enter Tryz.func148,Tryz.ntmps148;go_wp2_with fail
 refine (H.out _).mono ?_;rintro e w' ⟨rfl,rfl⟩;go_wp2_with fail
 go_ret;exact ⟨rfl,rfl⟩
def dj (a n:Nat) (i:Int):Int:=if 0<=i/\i<n then a+i else -1
theorem oN (a n:Nat) (i:Int) (h:a+n<=100000) (c : -9223372036854775808<=i/\i<=100000) (w:World) :
 Calls Tryz.prog 189 #[mB a n,.int .i64 i] w fun e w'=>e=.returned (.int .i64 (dj a n i))/\w=w':=by
 unfold mB;by_cases d:i<0
 ·have e:dj a n i = -1:=by unfold dj;rw [if_neg Ha]
  rw [e];clear e;go_enter Tryz.func189,Tryz.ntmps189;go_wp2;go_ret;exact ⟨rfl,rfl⟩
 ·obtain ⟨k,rfl⟩:∃ k:Nat,i=(k:Int):=⟨i.toNat,Ha⟩
  have g:(FloatKind.f64.format.order (floatOfInt .f64 (k:Int)) (fb n)==some .gt||FloatKind.f64.format.order (floatOfInt .f64 (k:Int)) (fb n)==some .eq)=decide (n<=k):=Jk k n Ha Ha;have v:=fun w:World=>run_convert_float_int w 175 3 .f64 .i64 _ _ (P:=Tryz.prog) Hc Tryz.underlying3 (nI a Ha);by_cases b:n<=k
  ·have e:dj a n k = -1:=by unfold dj;rw [if_neg Ha]
   rw [e];rw [decide_eq_true b] at g;clear e;go_enter Tryz.func189,Tryz.ntmps189;go_wp2;go_ret;exact ⟨rfl,rfl⟩
  ·have e:dj a n k=a+k:=by unfold dj;rw [if_pos Ha]
   rw [e];rw [decide_eq_false b] at g;clear e;go_enter Tryz.func189,Tryz.ntmps189;go_wp2;go_ret;exact ⟨lR (by first | rfl | omega),rfl⟩
def qq (l c:Int) (b g:Nat) (f:Int):Value:=.agg #[.int .i64 l,.int .i64 c,.int .i64 b,.int .i64 g,.int .i64 f]
theorem AV (l c:Int) (b g:Nat) (f:Int) (w:World) :
 Calls Tryz.prog 149 #[qq l c b g f] w fun e w'=>e=.returned (mB 2 g)/\Below w.heap.size w w':=by
 have H:=He (qJ 0 2 g Ha);rw [wY] at H;unfold qq;go_enter Tryz.func149,Tryz.ntmps149;go_wp2_with fail
 refine (H.out _).mono ?_;rintro e w' ⟨rfl,rfl⟩;go_wp2_with fail
 go_ret;exact ⟨rfl,(Below.refl _ _).alloc (Nat.le_refl _) _⟩
theorem tE (l c:Int) (b g:Nat) (f:Int) (A:g<=1000) (w:World) :
 Calls Tryz.prog 92 #[qq l c b g f] w fun e w'=>e=.returned (mB (2+g) b)/\Below w.heap.size w w':=by
 have H:=He (qJ 2 g b Ha);have t:=He (AV l c b g f);unfold qq at t ⊢;go_enter Tryz.func92,Tryz.ntmps92;go_upto_region 1 with fail
 obtain ⟨W,a⟩:∃ W,W=w.alloc (Obj.cells #[.int .i64 l,.int .i64 c,.int .i64 b,.int .i64 g,.int .i64 f] 97):=⟨_,rfl⟩
 rw [<- a];have j:W.cell? ⟨w.heap.size,0,none⟩=some (.int .i64 l):=by rw [a];simp [go_sem]
 have k:W.cell? ⟨w.heap.size,1,none⟩=some (.int .i64 c):=by rw [a];simp [go_sem]
 have m:W.cell? ⟨w.heap.size,2,none⟩=some (.int .i64 b):=by rw [a];simp [go_sem]
 have n:W.cell? ⟨w.heap.size,3,none⟩=some (.int .i64 g):=by rw [a];simp [go_sem]
 have o:W.cell? ⟨w.heap.size,4,none⟩=some (.int .i64 f):=by rw [a];simp [go_sem]
 have d:Below w.heap.size w W:=by rw [a];exact (Below.refl _ _).alloc (Nat.le_refl _) _
 clear a;have p:w.heap.size<=W.heap.size:=d.size;have HB:=He d;clear d;generalize w.heap.size=r at j k m n o ⊢;have u:∀ g:fx W,g.w.cell? _=_:=fun g=>g.keep j;have v:∀ g:fx W,g.w.cell? _=_:=fun g=>g.keep k;have x:∀ g:fx W,g.w.cell? _=_:=fun g=>g.keep m;have y:∀ g:fx W,g.w.cell? _=_:=fun g=>g.keep n;have z:∀ g:fx W,g.w.cell? _=_:=fun g=>g.keep o;clear j k m n o;refine kS Hc Hc ?_
 repeat (go_big_quiet_step ((first | (go_at_call 149;exact pD (t.out _)) | (go_at_call 148;exact oM (H.out _)))))
 refine wpQuiet_nil ?_;intro _ q;obtain ⟨s,h⟩:=q;subst h;have i:=He (HB.out.trans (s.below.mono p));clear u v x y z;generalize fx.w s=V at *;clear s;go_wp2;go_ret;exact ⟨rfl,i.out⟩
theorem wZ (l c:Int) (b g:Nat) (f:Int) (j:b<=1000) (h:g<=1000) (w:World) :
 Calls Tryz.prog 41 #[qq l c b g f] w fun e w'=>e=.returned (.int .i64 ((2+g+b:Nat):Int))/\Below w.heap.size w w':=by
 have H:=He (tE l c b g f h);have i:=He (AU (2+g) b Ha);have v:=fun w:World=>run_convert_float_int w 175 3 .f64 .i64 _ _ (P:=Tryz.prog) Hc Tryz.underlying3 (nI (2+g+b) Ha);generalize 2+g+b=m at *;unfold qq at H ⊢;go_enter Tryz.func41,Tryz.ntmps41;go_wp2_with fail
 refine (H.out _).mono ?_;rintro e w' ⟨rfl,d⟩;have a:=((Below.refl w.heap.size w).alloc (Nat.le_refl _) _).trans (d.mono Hb);have HB:=He a;clear d a;go_wp2_with fail
 refine (i.out _).mono ?_;rintro e w' ⟨rfl,rfl⟩;go_wp2_with fail
 go_ret;exact ⟨rfl,HB.out⟩
theorem AW (l c:Int) (b g:Nat) (f i:Int) (k:g<=1000) (h : -9223372036854775808<=i/\i<=100000) (w:World) :
 Calls Tryz.prog 165 #[qq l c b g f,.int .i64 i] w fun e w'=>e=.returned (.int .i64 (dj 2 g i))/\Below w.heap.size w w':=by
 have H:=He (AV l c b g f);have j:=He (oN 2 g i Ha h);generalize dj 2 g i=m at *;unfold qq at H ⊢;go_enter Tryz.func165,Tryz.ntmps165;go_wp2_with fail
 refine (H.out _).mono ?_;rintro e w' ⟨rfl,d⟩;have a:=((Below.refl w.heap.size w).alloc (Nat.le_refl _) _).trans (d.mono Hb);have HB:=He a;clear d a;go_wp2_with fail
 refine (j.out _).mono ?_;rintro e w' ⟨rfl,rfl⟩;go_wp2_with fail
 go_ret;exact ⟨rfl,HB.out⟩
theorem xa (l c:Int) (b g:Nat) (f i:Int) (n:b<=1000) (h:g<=1000) (j : -9223372036854775808<=i/\i<=100000) (w:World) :
 Calls Tryz.prog 154 #[qq l c b g f,.int .i64 i] w fun e w'=>e=.returned (.int .i64 (dj (2+g) b i))/\Below w.heap.size w w':=by
 have H:=He (tE l c b g f h);have k:=He (oN (2+g) b i Ha j);generalize dj (2+g) b i=m at *;unfold qq at H ⊢;go_enter Tryz.func154,Tryz.ntmps154;go_wp2_with fail
 refine (H.out _).mono ?_;rintro e w' ⟨rfl,d⟩;have a:=((Below.refl w.heap.size w).alloc (Nat.le_refl _) _).trans (d.mono Hb);have HB:=He a;clear d a;go_wp2_with fail
 refine (k.out _).mono ?_;rintro e w' ⟨rfl,rfl⟩;go_wp2_with fail
 go_ret;exact ⟨rfl,HB.out⟩
theorem kE (x:Int) (c:0<=x) (w:World) :
 Calls Tryz.prog 156 #[.int .u32 x] w fun e w'=>e=.returned (.int .i64 (x%2))/\w=w':=by
 have a:=fun w=>oN 0 2 (x%2) Ha Ha w;rw [wY,show dj 0 2 (x%2)=x%2 by unfold dj;rw [if_pos Ha];omega] at a;have u:=IntWalk.u32_in (x%2) Ha;have e:x.tmod 2=x%2:=Int.tmod_eq_emod_of_nonneg c;have b:=He a;clear a;go_enter Tryz.func156,Tryz.ntmps156;go_wp2_with fail
 refine (b.out _).mono ?_;rintro e w' ⟨rfl,rfl⟩;go_wp2_with fail
 go_ret;exact ⟨rfl,rfl⟩
end Go.Proofs.YtegjelaejbacnaaGreat
namespace Go.Proofs.YtegjelaejbacnaaGreat.Fl
abbrev F (n:Int):Nat:=floatOfInt .f64 n
theorem qd (neg:Bool) (n a:Nat) :
 n/2 ^ (min a (n.log2+2))<=Ieee.Toward.even.cut neg n a/\Ieee.Toward.even.cut neg n a<=n/2 ^ (min a (n.log2+2))+1:=by
 unfold Ieee.Toward.cut;simp only [Nat.one_shiftLeft];constructor
 ·omega
 ·have:∀ b:Bool,b.toNat<=1:=Hd;have:=this (decide (2 ^ (min a (n.log2+2))<2*(n%2 ^ (min a (n.log2+2))))||(2 ^ (min a (n.log2+2))==2*(n%2 ^ (min a (n.log2+2)))&&n/2 ^ (min a (n.log2+2))%2==1));omega
theorem log2_lt {n k:Nat} (a:n≠0) (h:n<2 ^ k):n.log2<k:=(Nat.log2_lt a).2 h
theorem le_log2 {n k:Nat} (h:2 ^ k<=n):k<=n.log2:=by
 have a:n≠0:=by have:=Nat.two_pow_pos k;omega
 exact (Nat.le_log2 a).2 h
theorem xc (m:Nat) (A:1<=m) (h:m<=2 ^ 63) :
 ∃ r,(∀ neg,Ieee.double.nearest neg m 0=Ieee.double.word neg r)/\(m.log2+1023)*2 ^ 52<=r/\r<=(m.log2+1024)*2 ^ 52:=by
 have f:m≠0:=Ha;have B:m.log2<64:=log2_lt f Ha;have g:2 ^ m.log2<=m:=Nat.log2_self_le f;have i:m<2 ^ (m.log2+1):=Nat.lt_log2_self;generalize k:m.log2=L at *;have j:∀ neg,Ieee.double.nearest neg m 0=Ieee.double.word neg (min ((L+1022)*2 ^ 52+Ieee.Toward.even.cut neg (m <<< (52-L)) (L-52)) Ieee.double.infRung):=by
  intro neg;unfold Ieee.Format.nearest;rw [if_neg f,k];have l:(max ((0:Int)+(L:Int)-(Ieee.double.fractionBits:Nat)) Ieee.double.leastPlace)=(L:Int)-52:=by
   have:Ieee.double.leastPlace = -1074:=Hd;have o:(Ieee.double.fractionBits:Int)=52:=rfl;rw [this,o];omega
  simp only [l];have p:((L:Int)-52-Ieee.double.leastPlace).toNat=L+1022:=by
   have:Ieee.double.leastPlace = -1074:=Hd;rw [this];omega
  have q:((0:Int)-((L:Int)-52)).toNat=52-L:=Ha;have s:(((L:Int)-52)-0).toNat=L-52:=Ha;have t:Ieee.double.binade=2 ^ 52:=rfl;rw [p,q,s,t]
 have b:∀ n d neg,Ieee.Toward.even.cut neg n d=Ieee.Toward.even.cut false n d:=fun n d neg=>rfl;have a:2 ^ 52<=Ieee.Toward.even.cut false (m <<< (52-L)) (L-52)/\Ieee.Toward.even.cut false (m <<< (52-L)) (L-52)<=2 ^ 53:=by
  by_cases C:L<=52
  ·have hd:L-52=0:=Ha;rw [hd];have e:Ieee.Toward.even.cut false (m <<< (52-L)) 0=m <<< (52-L):=by
    unfold Ieee.Toward.cut;simp [Nat.mod_one]
   rw [e,Nat.shiftLeft_eq];have u:2 ^ L*2 ^ (52-L)=2 ^ 52:=by rw [<- Nat.pow_add];congr 1;omega
   have v:2 ^ (L+1)*2 ^ (52-L)=2 ^ 53:=by rw [<- Nat.pow_add];congr 1;omega
   have w:=Nat.mul_le_mul_right (2 ^ (52-L)) g;have x:=Nat.mul_le_mul_right (2 ^ (52-L)) (Nat.le_of_lt i);omega
  ·have hd:52-L=0:=Ha;rw [hd,Nat.shiftLeft_zero];obtain ⟨y,z⟩:=qd false m (L-52);have c:min (L-52) (m.log2+2)=L-52:=Ha;rw [c] at y z;have u:2 ^ 52*2 ^ (L-52)=2 ^ L:=by rw [<- Nat.pow_add];congr 1;omega
   have v:2 ^ 53*2 ^ (L-52)=2 ^ (L+1):=by rw [<- Nat.pow_add];congr 1;omega
   have w:2 ^ 52<=m/2 ^ (L-52):=(Nat.le_div_iff_mul_le (Nat.two_pow_pos _)).2 Ha;have x:m/2 ^ (L-52)<2 ^ 53:=(Nat.div_lt_iff_lt_mul (Nat.two_pow_pos _)).2 Ha;omega
 refine ⟨(L+1022)*2 ^ 52+Ieee.Toward.even.cut false (m <<< (52-L)) (L-52),?_,?_,?_⟩
 ·intro neg;rw [j neg,b _ _ neg]
  congr 1
  have:Ieee.double.infRung=2047*2 ^ 52:=Hd;rw [this];have:(L+1022)*2 ^ 52<=(63+1022)*2 ^ 52:=Nat.mul_le_mul_right _ Ha;omega
 ·have:=a.1;omega
 ·have:=a.2;omega
theorem Ci (neg:Bool) (r:Nat) (e:2 ^ 52<=r) (a:r<2047*2 ^ 52) :
 Ieee.double.read (Ieee.double.word neg r)=.number neg (2 ^ 52+r%2 ^ 52) (-1074+(r/2 ^ 52-1:Nat)):=by
 unfold Ieee.Format.read Ieee.Format.word;have s:Ieee.double.signWeight=2 ^ 63:=rfl;have b:Ieee.double.binade=2 ^ 52:=rfl;have i:Ieee.double.infRung=2047*2 ^ 52:=Hd;have l:Ieee.double.leastPlace = -1074:=Hd;rw [s,b,i,l];have c:(if neg=true then 2 ^ 63+r else r)%2 ^ 63=r:=by split <;> omega
 have d:((if neg=true then 2 ^ 63+r else r)/2 ^ 63%2==1)=neg:=by
  cases neg
  ·simp;omega
  ·simp;omega
 simp only [c,d];rw [if_neg Ha,if_pos a]
theorem Lj (n:Int) (h:1<=n) (d:n<=2 ^ 63):∃ r,F n=r/\(n.toNat.log2+1023)*2 ^ 52<=r/\r<=(n.toNat.log2+1024)*2 ^ 52:=by
 obtain ⟨r,a,b,c⟩:=xc n.toNat Ha Ha;refine ⟨r,?_,b,c⟩;have:F n=Ieee.double.nearest (decide (n<0)) n.natAbs 0:=rfl;rw [this,show n.natAbs=n.toNat by omega,a,show decide (n<0)=false by simp;omega];rfl
theorem Cj (n:Int) (h:16<=n) (d:n<=2 ^ 63) (y:Nat) (m:Nat) (p:Int) (f:Ieee.double.read y=.number false m p) (q:m<2 ^ 53) (hp:p <= -49) :
 FloatKind.f64.format.order (F n) y=some .gt:=by
 obtain ⟨r,e,g,s⟩:=Lj n Ha d;have t:n.toNat.log2<64:=log2_lt Ha Ha;have i:4<=n.toNat.log2:=le_log2 Ha;show Ieee.double.order (F n) y=_;unfold Ieee.Format.order;have j:r=Ieee.double.word false r:=rfl;rw [e,j,Ci false r Ha Ha,f];simp only [Ieee.Datum.order,Option.some.injEq];have u:n.toNat.log2+1023<=r/2 ^ 52:=(Nat.le_div_iff_mul_le Ha).2 g;generalize c:(-1074+((r/2 ^ 52-1:Nat):Int))=a at *;have b:p+1<=a:=Ha;have k:min a p=p:=Ha;rw [k];have:compare (Ieee.signed false (2 ^ 52+r%2 ^ 52) (a-p).toNat) (Ieee.signed false m (p-p).toNat)=.gt:=by
  rw [Int.compare_eq_gt];unfold Ieee.signed;simp only [Bool.false_eq_true,if_false,Nat.shiftLeft_eq];have l:(p-p).toNat=0:=Ha;rw [l];have o:2 ^ 1<=2 ^ (a-p).toNat:=Nat.pow_le_pow_right Ha Ha;have v:=Nat.mul_le_mul (show 2 ^ 52<=2 ^ 52+r%2 ^ 52 by omega) o;omega
 exact this
theorem Ck:∀ i:Fin 80,floatToIntVal .f64 (F (i.val:Int)) .i64=some (i.val:Int)/\floatToIntVal .f64 (F (i.val:Int)) .u64=some (i.val:Int)/\floatToIntVal .f64 (F (i.val:Int)) .u8=some (i.val:Int):=by decide +kernel
theorem Cl:∀ i:Fin 5,FloatKind.f64.format.mul (F (i.val:Int)) (F 16)=some (F ((i.val:Int)*16)):=by decide +kernel
theorem Cm:∀ i:Fin 5,∀ j:Fin 16,FloatKind.f64.format.add (F ((i.val:Int)*16)) (F (j.val:Int))=some (F ((i.val:Int)*16+j.val)):=by decide +kernel
theorem Cn:∀ i:Fin 80,(FloatKind.f64.format.order (F (i.val:Int)) 0==some .gt||FloatKind.f64.format.order (F (i.val:Int)) 0==some .eq)=true:=by decide +kernel
theorem Co:∀ i:Fin 80,(FloatKind.f64.format.order (F (i.val:Int)) 4613937818241073152==some .lt||FloatKind.f64.format.order (F (i.val:Int)) 4613937818241073152==some .eq)=decide (i.val<=3):=by decide +kernel
theorem zt:∀ i:Fin 80,(FloatKind.f64.format.order (F (i.val:Int)) 4624633867356078080==some .lt||FloatKind.f64.format.order (F (i.val:Int)) 4624633867356078080==some .eq)=decide (i.val<=15):=by decide +kernel
theorem Jm (n:Int) (h:0<=n) (a:n<=2 ^ 63):(FloatKind.f64.format.order (F n) 0==some .gt||FloatKind.f64.format.order (F n) 0==some .eq)=true:=by
 by_cases b:n<16
 ·have:=Cn ⟨n.toNat,Ha⟩
  rwa [show ((n.toNat:Nat):Int)=n by omega] at this
 ·rw [Cj n Ha a 0 0 (-1074) (by decide +kernel) Ha Ha];rfl
theorem Lk (n:Int) (h:0<=n) (a:n<=3):(FloatKind.f64.format.order (F n) 4613937818241073152==some .lt||FloatKind.f64.format.order (F n) 4613937818241073152==some .eq)=true:=by
 have:=Co ⟨n.toNat,Ha⟩;simp only [show ((n.toNat:Nat):Int)=n by omega] at this;rw [this];simp;omega
theorem JX (n:Int) (h:0<=n) (a:n<=15):(FloatKind.f64.format.order (F n) 4624633867356078080==some .lt||FloatKind.f64.format.order (F n) 4624633867356078080==some .eq)=true:=by
 have:=zt ⟨n.toNat,Ha⟩;simp only [show ((n.toNat:Nat):Int)=n by omega] at this;rw [this];simp;omega
theorem Cp (i:Int) (h:0<=i/\i<80):floatToIntVal .f64 (F i) .i64=some i/\floatToIntVal .f64 (F i) .u64=some i/\floatToIntVal .f64 (F i) .u8=some i:=by
 have:=Ck ⟨i.toNat,Ha⟩;simp only [show ((i.toNat:Nat):Int)=i by omega] at this;exact this
theorem GQ (i:Nat) (h:i<5):FloatKind.f64.format.mul (F i) (F 16)=some (F (i*16)):=Cl ⟨i,h⟩
theorem GR (i j:Nat) (h:i<5) (a:j<16):FloatKind.f64.format.add (F (i*16)) (F j)=some (F (i*16+j)):=Cm ⟨i,h⟩ ⟨j,a⟩
theorem MX {P:Program} (s d:TypeId) (a:(P.underlying s).isSome=true) (hd:P.underlying d=some (.int .u8)) (i:Nat) (h:i<80) (w:World) :
 (convert s d (.float .f64 (F i))).run P w=.ok (.int .u8 i) w:=run_convert_float_int w s d .f64 .u8 _ _ a hd (Cp i Ha).2.2
end Go.Proofs.YtegjelaejbacnaaGreat.Fl
namespace Go.Proofs.YtegjelaejbacnaaGreat
open Fl
theorem vj (l c:Int) (w:World) :
 Calls Tryz.prog 181 #[.agg #[.int .i64 l,.int .i64 c]] w fun e w'=>e=.returned (.complex .f64 (F l) (F c))/\Below w.heap.size w w':=by
 go_enter Tryz.func181,Tryz.ntmps181;go_wp2;go_ret;exact ⟨rfl,(Below.refl _ _).alloc (Nat.le_refl _) _⟩
theorem zu (l c:Nat) (w:World) (h:l<=3) (a:c<=15) :
 Calls Tryz.prog 182 #[.complex .f64 (F l) (F c)] w fun e w'=>e=.returned (.bool true)/\w=w':=by
 have b:=Jm l Ha Ha;have d:=Lk l Ha Ha;have f:=Jm c Ha Ha;have g:=JX c Ha Ha;go_enter Tryz.func182,Tryz.ntmps182;go_wp2;go_ret;exact ⟨rfl,rfl⟩
abbrev bad (l c:Int):Prop:=l<0\/3<l\/c<0\/15<c
theorem GS (l c:Nat) (w:World) (h:l<=3) (d:c<=15) :
 Calls Tryz.prog 150 #[.agg #[.int .i64 l,.int .i64 c]] w fun e w'=>e=.returned (.tuple #[.int .u8 ((l*16+c:Nat):Int),.bool true])/\Below w.heap.size w w':=by
 have m:∀ w:World,(binOp .mul 175 (.float .f64 (F l)) (.float .f64 4625196817309499392)).run Tryz.prog w=.ok (.float .f64 (F (l*16))) w:=fun w=>run_float_arith w .mul 175 .f64 _ _ _ (GQ l Ha);have a:∀ w:World,(binOp .add 175 (.float .f64 (F (l*16))) (.float .f64 (F c))).run Tryz.prog w=.ok (.float .f64 (F (l*16+c))) w:=fun w=>run_float_arith w .add 175 .f64 _ _ _ (GR l c Ha Ha);have f:∀ w:World,(convert 175 5 (.float .f64 (F (l*16+c)))).run Tryz.prog w=.ok (.int .u8 (l*16+c)) w:=fun w=>MX (P:=Tryz.prog) 175 5 Hc Hc (l*16+c) Ha w;go_enter Tryz.func150,Tryz.ntmps150;go_wp2_with (first | (go_at_call 181;refine (vj _ _ _).mono ?_;rintro e w' ⟨rfl,b⟩) | (go_at_call 182;refine (zu _ _ _ Ha Ha).mono ?_;rintro e w' ⟨rfl,rfl⟩))
 go_ret2
 exact ⟨Hb,((Below.refl _ _).alloc (Nat.le_refl _) _).trans (b.mono Hb)⟩
open Fx
def lY (s:Nat × Nat) (x:Int):Nat × Nat:=((s.1+x.toNat)%65521,(s.2+(s.1+x.toNat)%65521)%65521)
def fA (bs:List Int):Nat × Nat:=bs.foldl lY (1,0)
def oO (bs:List Int):Nat:=(fA bs).2*65536+(fA bs).1
theorem zv (s:Nat × Nat) (x:Int):(lY s x).1<65521/\(lY s x).2<65521:=by
 unfold lY;exact ⟨Nat.mod_lt _ Ha,Nat.mod_lt _ Ha⟩
theorem qK (bs:List Int) (x:Int):fA (bs++[x])=lY (fA bs) x:=by unfold fA;rw [List.foldl_append];rfl
theorem xd (bs:List Int):(fA bs).1<65521/\(fA bs).2<65521:=by
 rcases List.eq_nil_or_concat bs with rfl | ⟨l,x,rfl⟩
 ·unfold fA;simp
 ·rw [List.concat_eq_append,qK];exact zv _ _
theorem AX (bs:List Int):oO bs<4294967296:=by have:=xd bs;unfold oO;omega
theorem xe (n:Nat) (h:n<131042) (w:World) :
 Calls Tryz.prog 214 #[.float .f64 (fb n)] w fun e w'=>e=.returned (.float .f64 (fb (n%65521)))/\w=w':=by
 have g:=Jk n 65521 Ha Ha;rw [D4] at g;by_cases a:65521<=n
 ·have s:=fun w:World=>run_float_arith (P:=Tryz.prog) w .sub 175 .f64 _ _ _ (JR n 65521 Ha a);rw [D4] at s;have e:n-65521=n%65521:=Ha;rw [e] at s;rw [decide_eq_true a] at g;clear e a;generalize b:n%65521=m at *;clear b;go_enter Tryz.func214,Tryz.ntmps214;go_wp2;go_ret;exact ⟨rfl,rfl⟩
 ·have e:n%65521=n:=Nat.mod_eq_of_lt Ha;rw [e];rw [decide_eq_false a] at g;clear e a;go_enter Tryz.func214,Tryz.ntmps214;go_wp2;go_ret;exact ⟨rfl,rfl⟩
theorem Ee (a c x:Nat) (k:a<65521) (l:c<65521) (n:x<256) (w:World) :
 Calls Tryz.prog 208 #[.complex .f64 (fb a) (fb c),.int .u8 x] w fun e w'=>e=.returned (.complex .f64 (fb ((a+x)%65521)) (fb ((c+(a+x)%65521)%65521)))/\w=w':=by
 have o:∀ w:World,(binOp .add 175 (.float .f64 (fb a)) (.float .f64 (floatOfInt .f64 (x:Int)))).run Tryz.prog w=_:=fun w:World=>run_float_arith (P:=Tryz.prog) w .add 175 .f64 _ _ _ (zk a x Ha);have b:=fun w:World=>xe (a+x) Ha w;generalize d:(a+x)%65521=m at *;have g:m<65521:=Ha;have p:=fun w:World=>run_float_arith (P:=Tryz.prog) w .add 175 .f64 _ _ _ (zk c m Ha);have f:=fun w:World=>xe (c+m) Ha w;generalize d:(c+m)%65521=q at *;clear d;generalize h:a+x=y at *;clear h;have i:=He b;have j:=He f;clear b f;go_enter Tryz.func208,Tryz.ntmps208;go_wp2_with fail
 refine (i.out _).mono ?_;rintro e w' ⟨rfl,rfl⟩;go_wp2_with fail
 refine (j.out _).mono ?_;rintro e w' ⟨rfl,rfl⟩;go_wp2_with fail
 go_ret;exact ⟨rfl,rfl⟩
theorem AY (A:Option Addr) (bs:List Int) (n d:Nat) (w:World) (l:bs.length=n) (v:n<=1000000) (m:ay bs) (o:dK w A bs) :
 Calls Tryz.prog 187 #[.slice A n d] w fun e w'=>e=.returned (.int .u32 (oO bs))/\w=w':=by
 have q:=He o;have p:=He l;have HB:=He m;clear l m o;go_enter Tryz.func187,Tryz.ntmps187;go_wp2
 go_loop [3,8] (fun z i=>∃ k:Nat,k<=n/\i=.int .i64 k/\z=.complex .f64 (fb (fA (bs.take k)).1) (fb (fA (bs.take k)).2)) (fun _ i=>n-(intOf i).toNat)
 case atStart=>exact ⟨0,Nat.zero_le _,rfl,by rw [show fA (bs.take 0)=(1,0) from rfl,JS,vc]⟩
 case round =>
  obtain ⟨k,B,rfl,rfl⟩:=hrel;have b:=xd (bs.take k);by_cases g:k<n
  ·obtain ⟨x,f⟩:∃ x,bs[k]?=some x:=⟨_,List.getElem?_eq_getElem (by rw [p.out];exact g)⟩
   obtain ⟨C,rfl,r⟩:=q.out k x f;have h:=HB.out x (List.mem_of_getElem? f);obtain ⟨y,rfl⟩:∃ y:Nat,x=(y:Int):=⟨x.toNat,Ha⟩
   have j:y<256:=Ha;have s:Hid (fA (bs.take (k+1))=(((fA (bs.take k)).1+y)%65521,((fA (bs.take k)).2+((fA (bs.take k)).1+y)%65521)%65521)):=by
    rw [aw f,qK];unfold lY;rw [Int.toNat_natCast];exact rfl
   have t:Hid (∀ w,_):=fun w:World=>Ee _ _ y b.1 b.2 j w;clear f h b;generalize (fA (bs.take k)).1=a at *;generalize (fA (bs.take k)).2=c at *;go_wp2_with fail
   refine (t.out _).mono ?_;rintro e w' ⟨rfl,rfl⟩;go_wp2_with fail
   go_round
   case rel=>exact ⟨k+1,Ha,by go_num,by rw [s.out];simp only [Nat.add_mod_mod]⟩
   case measure=>simp [intOf];omega
  ·have e:bs.take k=bs:=List.take_of_length_le (by rw [p.out];omega);rw [e] at b ⊢;have H:=fun w:World=>run_convert_float_int w 175 80 .f64 .u32 _ _ (P:=Tryz.prog) Hc Tryz.underlying80 (D3 (fA bs).1 Ha);have I:=fun w:World=>run_convert_float_int w 175 80 .f64 .u32 _ _ (P:=Tryz.prog) Hc Tryz.underlying80 (D3 (fA bs).2 Ha);have u:Hid (oO bs=(fA bs).2*65536+(fA bs).1):=He rfl;have K:=b.1;have L:=b.2;clear b e;generalize (fA bs).1=a at *;generalize (fA bs).2=c at *;have M:IntKind.u32.wrap ((c:Int)*65536)=(c:Int)*65536:=IntWalk.u32_in _ Ha;have N:IntKind.u32.wrap ((c:Int)*65536+a)=(c:Int)*65536+a:=IntWalk.u32_in _ Ha;go_wp2;go_ret;exact ⟨lR (by rw [u.out];omega),rfl⟩
theorem GT {W:World} {C:Array Value} {t:TypeId} {a:Nat × Nat} {bs:List Int} (b:C.toList=Bs bs):dK (W.alloc (.cells C t a)) (some ⟨W.heap.size,0,none⟩) bs :=
 gC (heap_alloc_new W (.cells C t a)) b
theorem qL (w:World) (base:Nat) (v:Value) (m:Nat) (xs:List Int) (n s:Nat) (b:w.ownsRow base 5 1 v m (Bs xs)) (d:base<=w.heap.size) (hm:m<=900000) (hs:s<=4) (hn:n<4294967296) :
 Calls Tryz.prog 186 #[v,.int .u32 n,.int .i64 s] w fun e w'=>∃ v',e=.returned v'/\w'.ownsRow base 5 1 v' (m+s) (Bs (xs++be n s))/\Below base w w':=by
 have S:=He b;clear b;go_enter Tryz.func186,Tryz.ntmps186;go_wp2;refine bq (fun B w'=>∃ (k:Nat) (C:Value) (c:List Int),k<=s/\Hid (w'.ownsRow base 5 1 C (m+(s-k)) (Bs (xs++c))/\c++be n k=be n s/\Below base w w')/\∃ M N O h i l o p q r t u y:Value,B={ tmps:=#[C,.int .u32 n,.int .i64 k,undef,undef,undef,.slice none 0 0,M,N,O,h,i,l,o,p,q,r,t,u,y],defers:=[] })
  (fun B _=>(intOf (B.tmps.getD 2 undef)).toNat) rfl ?_ ?_
 ·intro T;go_wp2;go_step3;rename_i U;exact U _ _ (T _ _ ⟨s,v,[],Nat.le_refl _,⟨by simpa using S.out,rfl,Below.refl _ _⟩,_,_,_,_,_,_,_,_,_,_,_,_,_,rfl⟩)
 ·rintro B W ⟨k,C,c,R,f,M,N,O,h,i,l,o,p,q,r,t,u,y,rfl⟩;by_cases H:k=0
  ·subst H;go_wp2;simp only [Exit.jump];go_ret;obtain ⟨I,g,V⟩:=f.out;exact ⟨_,rfl,by rw [<- g];simpa [be] using I,V⟩
  ·obtain ⟨j,rfl⟩:∃ j,k=j+1:=⟨k-1,Ha⟩
   have hq:(((j+1:Nat):Int)==0)=false:=by simp;omega
   have hj:j<4:=Ha;have K:base<=W.heap.size:=Nat.le_trans d f.out.2.2.size;have a:∀ x:Int,x=((n/256 ^ j%256:Nat):Int)->∀ (z:World) (v':Value),z.ownsRow base 5 1 v' (m+(s-(j+1))+1) (Bs ((xs++c)++[x]))->Below base W z->z.ownsRow base 5 1 v' (m+(s-j)) (Bs (xs++(c++[x])))/\(c++[x])++be n j=be n s/\Below base w z:=by
    intro x X z v' I g;refine ⟨?_,?_,f.out.2.2.trans g⟩
    ·rw [show m+(s-j)=m+(s-(j+1))+1 by omega,<- List.append_assoc];exact I
    ·rw [<- f.out.2.1,X,List.append_assoc];rfl
   have Y:=He a;clear a;have Z:((j+1:Nat):Int)-1=j:=Ha;have HL:Hid (m+(s-(j+1))+1<=1000000):=by unfold Hid;omega
   rcases (show j=0\/j=1\/j=2\/j=3 by omega) with rfl | rfl | rfl | rfl
   all_goals
    go_wp2_with (first
     | (at_builtin
        refine cd _ rfl (.tmp 12) (.tmp 18) rfl base C (m+(s-_)) (xs++c) rfl (f.out.1.alloc _) (some ⟨W.heap.size,0,none⟩) 1 1 [_] rfl (gC (heap_alloc_new _ _) rfl) rfl HL.out (by rw [al];omega) ?_;intro v2 w2 g A _;have L:Below base W w2:=(((Below.refl _ _).alloc K _).grown A (by rw [al];omega) (fun k R=>(f.out.1.lt k R).1))
        have H2:=He g;clear g A))
    go_step3;refine ⟨rfl,⟨_,v2,c++[_],Ha,Y.out _ ?_ _ _ H2.out L,_,_,_,_,_,_,_,_,_,_,_,_,_,rfl⟩,?_⟩
    ·first
      | (rw [Int.natCast_emod,Int.natCast_ediv];rfl)
      | (simp;done)
      | (simp;omega)
    ·simp [intOf]
def mS (k t:Int):Prop:=(0<=k/\k<=7)/\0<=t/\t<200
instance (k t:Int):Decidable (mS k t):=by unfold mS;infer_instance
def jK (l k:Int) (t:Nat) (bs:List Int):List Int:=[k,l]++be t 2++bs
def cL (l k:Int) (t:Nat) (bs:List Int):List Int:=jK l k t bs++be (oO (jK l k t bs)) 4
theorem nN {l k:Int} {t:Nat} {bs:List Int} (h:bs.length=56):(jK l k t bs).length=60:=by unfold jK;simp [au,h]
theorem fR {l k:Int} {t:Nat} {bs:List Int} (h:bs.length=56):(cL l k t bs).length=64:=by unfold cL;rw [List.length_append,nN h,au]
theorem qM {l k:Int} {t:Nat} {bs:List Int} (c:0<=l/\l<=255) (d:0<=k/\k<=7) (b:ay bs):ay (jK l k t bs):=by
 unfold jK;refine ay.append (ay.append (fun x a=>?_) (cF _ _)) b;simp only [List.mem_cons,List.not_mem_nil,or_false] at a;rcases a with rfl | rfl <;> omega
theorem mT {l k:Int} {t:Nat} {bs:List Int} (a:0<=l/\l<=255) (b:0<=k/\k<=7) (c:ay bs):ay (cL l k t bs) :=
 ay.append (qM a b c) (cF _ _)
theorem GU (l k t:Int) (C:Array Value) (bs:List Int) (w:World) (hl:0<=l/\l<=255) (hk:i64 k) (ht:i64 t) (X:C.toList=blkL k bs) (Y:¬ mS k t) :
 Calls Tryz.prog 152 #[.int .u8 l,.int .i64 t,.agg C] w fun e w'=>e=.returned (.tuple #[.slice none 0 0,.bool false])/\Below w.heap.size w w':=by
 have a:=heap_alloc_new w (Obj.cells C 37);have c0:=kX a X;have b:Below w.heap.size w (w.alloc (Obj.cells C 37)):=(Below.refl _ _).alloc (Nat.le_refl _) _;have HC:=He X;clear a X;go_enter Tryz.func152,Tryz.ntmps152;go_wp2;refine bq (fun Z w'=>w'=w.alloc (Obj.cells C 37)/\∃ u9 c d f g h i j m n o p q r s u v x y z A B H u32 I K L M N O R S T U V:Value,Z={ tmps:=#[.int .u8 l,.int .i64 t,.agg C,undef,undef,.pointer (some ⟨w.heap.size,0,none⟩),.slice none 0 0,.bool false,.slice none 0 0,u9,c,d,f,g,h,i,j,m,n,o,p,q,r,s,u,v,x,y,z,A,B,H,u32,I,K,L,M,N,O,R,S,T,U,V],defers:=[] }) (fun _ _=>0) rfl ?_ ?_
 ·intro _;by_cases h1:k<0
  ·go_wp2;go_step3;exact ⟨rfl,rfl,_,_,_,_,_,_,_,_,_,_,_,_,_,_,_,_,_,_,_,_,_,_,_,_,_,_,_,_,_,_,_,_,_,_,_,rfl⟩
  ·by_cases h2:7<k
   ·go_wp2;go_step3;exact ⟨rfl,rfl,_,_,_,_,_,_,_,_,_,_,_,_,_,_,_,_,_,_,_,_,_,_,_,_,_,_,_,_,_,_,_,_,_,_,_,rfl⟩
   ·by_cases h3:t<0
    ·go_wp2;go_step3;exact ⟨rfl,rfl,_,_,_,_,_,_,_,_,_,_,_,_,_,_,_,_,_,_,_,_,_,_,_,_,_,_,_,_,_,_,_,_,_,_,_,rfl⟩
    ·have h4:200<=t:=by unfold mS at Y;omega
     go_wp2;go_step3;exact ⟨rfl,rfl,_,_,_,_,_,_,_,_,_,_,_,_,_,_,_,_,_,_,_,_,_,_,_,_,_,_,_,_,_,_,_,_,_,_,_,rfl⟩
 ·rintro Z W ⟨rfl,u9,c,d,f,g,h,i,j,m,n,o,p,q,r,s,u,v,x,y,z,A,B,H,u32,I,K,L,M,N,O,R,S,T,U,V,rfl⟩;go_wp2;simp only [Exit.jump]
  go_ret2
  exact ⟨rfl,b⟩
theorem xf (l k:Int) (n:Nat) (C:Array Value) (bs:List Int) (w:World) (hl:0<=l/\l<=255) (hk:0<=k/\k<=7) (hn:n<200) (K:C.toList=blkL k bs) (i:bs.length=56) (hB:ay bs) :
 Calls Tryz.prog 152 #[.int .u8 l,.int .i64 n,.agg C] w fun e w'=>∃ v,e=.returned (.tuple #[v,.bool true])/\w'.ownsRow w.heap.size 5 1 v 64 (Bs (cL l k n bs))/\Below w.heap.size w w':=by
 have a:=heap_alloc_new w (Obj.cells C 37);have c0:=kX a K;have m:=DY a K;have o:Below w.heap.size w (w.alloc (Obj.cells C 37)):=(Below.refl _ _).alloc (Nat.le_refl _) _;obtain ⟨V,W,p,q,r⟩:=info_parts jE;have s:=fun w:World=>run_make (P:=Tryz.prog) w 22 5 V _ Tryz.underlying22 W p .i64 .i64 0 64 Ha Ha (by rw [r];omega) Ha;generalize X:madeCells (Value.int .u8 0).cells ((64:Int).toNat*V.size)=M at s;have HM:Hid (M.size=64*1):=by rw [<- X,size_madeCells,q];unfold Hid;simp
 rw [show ((64:Int)).toNat=64 by omega,show ((0:Int)).toNat=0 by omega] at s;have ad:=He a;have L:=He m;have an:IntKind.u8.wrap k=k:=IntWalk.u8_in _ Ha;have a0:IntKind.u32.wrap (n:Int)=n:=IntWalk.u32_in _ Ha;have HB:=He (qM (t:=n) hl hk hB);have d:=He (nN (l:=l) (k:=k) (t:=n) i);have N:=He (AX (jK l k n bs));have O:=He i;have u:w.heap.size<(w.alloc (Obj.cells C 37)).heap.size:=by rw [al];omega
 clear a K m X W p q r;go_enter Tryz.func152,Tryz.ntmps152;go_wp2;have a1:¬ k<0:=Ha;have a2:¬ 7<k:=Ha;have a3:decide ((n:Int)<0)=false:=decide_eq_false Ha;have a4:decide (200<=(n:Int))=false:=decide_eq_false Ha;generalize w.alloc (Obj.cells C 37)=W0 at *;have b:=World.ownsRow_made (e:=5) (size:=1) W0 M 64 (Nat.le_refl W0.heap.size) (by simp only [maxLen];omega) HM.out;have f:Below W0.heap.size W0 (W0.alloc (Obj.cells M 5)):=(Below.refl _ _).alloc (Nat.le_refl _) _;refine bq (fun _ _=>False) (fun _ _=>0) rfl ?_ (fun _ _ h=>h.elim);intro _;go_wp2_with (first
  | (at_builtin
     refine cd _ rfl (.tmp 24) (.tmp 29) rfl W0.heap.size _ 0 [] rfl (b.alloc _) (some ⟨(W0.alloc (Obj.cells M 5)).heap.size,0,none⟩) 2 2 [k,l] (by rw [al];rfl) (gC (heap_alloc_new _ _) rfl) rfl Ha ((f.alloc f.size _).size) ?_;intro Y R Z x _;have S:Below W0.heap.size W0 R:=(f.alloc f.size _).grown x (f.alloc f.size _).size (fun j hj=>(b.lt j hj).1);have own1:R.ownsRow W0.heap.size 5 1 Y 2 (Bs [k,l]):=Z;clear Z x b f))
 refine (qL R W0.heap.size Y 2 [k,l] n 2 own1 S.size Ha Ha Ha).mono ?_;rintro e w2 ⟨v2,rfl,own2,y⟩;have z:=S.trans y;clear own1 S y;go_wp2_with (first
  | (at_builtin
     refine cd _ rfl (.tmp 35) (.tmp 37) rfl W0.heap.size v2 4 _ rfl own2 (some ⟨w.heap.size,1,none⟩) 56 56 bs rfl (L.out.keep z) O.out Ha z.size ?_;intro v3 I h3 A _;have B3:Below W0.heap.size W0 I:=z.grown A z.size (fun j hj=>(own2.lt j hj).1);have c:I.ownsRow W0.heap.size 5 1 v3 60 (Bs (jK l k n bs)):=h3;clear h3 A own2 z))
 obtain ⟨A3,d3,rfl,B,a5,g⟩:=bM c d.out;rw [d.out] at c B ⊢;refine (AY A3 (jK l k n bs) 60 d3 I d.out Ha HB.out g).mono ?_;rintro e w4 ⟨rfl,rfl⟩;have a6:=He g;have T:Hid (cL l k n bs=jK l k n bs++be (oO (jK l k n bs)) 4):=He rfl;clear g;generalize oO (jK l k n bs)=sv at *;go_wp2_with fail
 refine (qL I W0.heap.size _ 60 (jK l k n bs) sv 4 c B3.size Ha Ha N.out).mono ?_;rintro e w4 ⟨v4,rfl,H,U⟩;go_wp2_with fail
 try simp only [Exit.jump]
 go_ret2
 exact ⟨v4,rfl,by rw [T.out];exact H.mono (Nat.le_of_lt u),o.trans ((B3.trans U).mono (Nat.le_of_lt u))⟩
section
variable {ops:Array Oper} {rest:List Oper} {o:Oper} {a:Act} {w:World} {Q:Exit->Act->World->Prop}
theorem Cq (w:World) (ty:TypeId) (g:Nat) (k:Int) (bs ys:List Int) (l:w.heap[g]?=some (.cells (ab k bs) 37 (0,0))) (i:bs.length=56) (b:Addr) (m c:Nat) (s:56<=m) (d:ys.length=56) (a:dK w (some b) ys) :
 (Builtin.copy_ #[22,22] ty #[.slice (some ⟨g,1,none⟩) 56 56,.slice (some b) m c]).run Tryz.prog w=.ok (goInt 56) (w.setRow g (ab k ys)):=by
 obtain ⟨t,n,o,f,p⟩:=info_parts jE;have h:=run_copy_row Tryz.prog w 22 22 ty 5 g 1 56 56 b m c (ab k bs) 37 (Bs ys) Tryz.underlying22 (by rw [n];simp [f]) l (by rw [ar,d];simp [Nat.min_def];omega)
  (fun j v hj=>by
    unfold Bs at hj;rw [List.getElem?_map] at hj;obtain ⟨x,q,rfl⟩:=Option.map_eq_some_iff.1 hj;obtain ⟨u,e,r⟩:=a j x q;injection e with e;subst e;exact r) (by rw [ar,aP i,d];decide) (io _)
 rw [h,ar,d]
 congr 2
 rw [bu];have e:(blkL k bs).drop (1+56)=[]:=List.drop_of_length_le (by unfold blkL;simp [ar,i]);rw [e];unfold ab blkL;simp
theorem vk (e:o.guard=none) (s x:Operand) (j:o.op=.call { callee:=.builtin .copy,args:=#[s,x],argTypes:=#[22,22] })
 (g:Nat) (k:Int) (f d:List Int) (l:a.eval s=.slice (some ⟨g,1,none⟩) 56 56) (n:w.heap[g]?=some (.cells (ab k f) 37 (0,0))) (p:f.length=56) (i:Addr) (m c:Nat) (q:a.eval x=.slice (some i) m c) (r:56<=m) (t:d.length=56) (b:dK w (some i) d)
 (h:wpList Tryz.prog ops Q rest (a.put o.dst (goInt 56)) (w.setRow g (ab k d))):wpList Tryz.prog ops Q (o :: rest) a w :=
 wpList_plain e fun _ u=>by
  unfold Oper.wp execOp;simp only [j,resolve,invoke,builtin,Sem.run_bind,Sem.run_pure,Result.andThen_ok,List.map_toArray,List.map_cons,List.map_nil,l,q,Cq w o.type g k f d n p i m c r t b];exact u _ _ h
end
theorem oP (A B:Option Addr) (xs ys:List Int) (n m c d:Nat) (w:World) (b:xs.length=n) (f:ys.length=m) (h:ay xs) (i:ay ys) (g:dK w A xs) (a:dK w B ys) :
 Calls Tryz.prog 194 #[.slice A n c,.slice B m d] w fun e w'=>e=.returned (.bool (decide (xs=ys)))/\w=w':=by
 have j:=dB (c:=c) g b;have k:=dB (c:=d) a f;have HB:=He (lT h i);clear g a b f;generalize strOfNums xs=l at *;generalize strOfNums ys=o at *;go_enter Tryz.func194,Tryz.ntmps194;go_wp2;go_ret;exact ⟨aj HB.out,rfl⟩
def Gt (xs:List Int):Int:=xs.getD 0 0
def iO (xs:List Int):List Int:=(xs.drop 4).take 56
def mC (l t:Int) (xs:List Int):Prop:=xs.length=64/\mS (Gt xs) t/\cL l (Gt xs) t.toNat (iO xs)=xs
instance (l t:Int) (xs:List Int):Decidable (mC l t xs):=by unfold mC;infer_instance
def pE (l t:Int) (xs:List Int):Array Value:=if mC l t xs then ab (Gt xs) (iO xs) else ab 0 az
theorem qN {xs:List Int} (h:xs.length=64):(iO xs).length=56:=by unfold iO;simp [h]
theorem oQ {xs:List Int} (h:ay xs):ay (iO xs):=fun x a=>h x (List.mem_of_mem_drop (List.mem_of_mem_take a))
theorem tF (x k:Int) (bs:List Int):(ab k bs).setIfInBounds 0 (.int .i64 x)=ab x bs:=by unfold ab blkL;simp
theorem Ef (l t:Int) (A:Option Addr) (xs:List Int) (c:Nat) (w:World) (hl:0<=l/\l<=255) (ht:i64 t) (hc:xs.length<=c) (cu:c<=9223372036854775807) (hB:ay xs) (hy:dK w A xs) :
 Calls Tryz.prog 197 #[.int .u8 l,.int .i64 t,.slice A xs.length c] w fun e w'=>e=.returned (.tuple #[.agg (pE l t xs),.bool (decide (mC l t xs))])/\Below w.heap.size w w':=by
 have HY:=He hy;have HB:=He hB;have X:=heap_alloc_new w (Obj.cells (ab 0 az) 37);have b:Below w.heap.size w (w.alloc (Obj.cells (ab 0 az) 37)):=(Below.refl _ _).alloc (Nat.le_refl _) _;have Y:=al w (Obj.cells (ab 0 az) 37);clear hy hB;generalize hn:xs.length=n at *;have Z:=He hn;clear hn;go_enter Tryz.func197,Tryz.ntmps197;go_wp2_with (first
  | (refine aq rfl rfl ?_))
 generalize w.alloc (Obj.cells (ab 0 az) 37)=z at *;have an:=He X;have p:z.heap.size=w.heap.size+1:=Y;have a0:=He (HY.out.keep b);clear X;refine bq (fun a' w'=>Hid (Below w.heap.size w w'/\w'.heap[w.heap.size]?=some (.cells (ab 0 az) 37 (0,0))/\¬ mC l t xs)/\∃ u0 u1 u2 u3 u4 u5 u7 u8 u9 a1 a2 a3 a4 a5 a6 a7 a8 a9 bb bi bk bl bn bs bt bx b0 b1 b2 b3 b4 u32 b5 b6 b8 b9 ca cb:Value,a'={ tmps:=#[u0,u1,u2,u3,u4,u5,.pointer (some ⟨w.heap.size,0,none⟩),u7,u8,u9,a1,a2,a3,a4,a5,a6,a7,a8,a9,bb,bi,bk,bl,bn,bs,bt,bx,b0,b1,b2,b3,b4,u32,b5,b6,b8,b9,ca,cb],defers:=[] }) (fun _ _=>0) rfl ?_ ?_
 ·intro _;have R:=He (heap_alloc_new z (Obj.cells (ab 0 az) 37));have H:Hid ((z.alloc (Obj.cells (ab 0 az) 37)).heap[w.heap.size]?=some (.cells (ab 0 az) 37 (0,0))):=by
   unfold Hid;rw [heap_alloc_old z _ Ha];exact an.out
  have I:=He (b.alloc b.size (Obj.cells (ab 0 az) 37));by_cases cc:n=64
  ·subst cc;obtain ⟨d,B⟩:∃ d,xs[0]?=some d:=⟨_,List.getElem?_eq_getElem (by rw [Z.out];omega)⟩
   obtain ⟨C,rfl,cg⟩:=(a0.out.alloc (Obj.cells (ab 0 az) 37)) 0 d B;have ea:C.add 0=C:=by unfold Addr.add;simp
   rw [ea] at cg;have cv:=HB.out d (List.mem_of_getElem? B);have hk:Gt xs=d:=by unfold Gt;rw [List.getD,B];rfl
   have q:=He hk;have cz:=kX R.out (bu 0 az);have fz:(z.alloc (Obj.cells (ab 0 az) 37)).frozen? ⟨z.heap.size,0,none⟩=false:=aA R.out 0;clear B ea hk;go_wp2_with (first
    | (refine aq rfl rfl ?_))
   rw [tF,<- p];have S:=He (heap_alloc_new z (Obj.cells (ab d az) 37));have K:Hid ((z.alloc (Obj.cells (ab d az) 37)).heap[w.heap.size]?=some (.cells (ab 0 az) 37 (0,0))):=by
    unfold Hid;rw [heap_alloc_old z _ Ha];exact an.out
   have L:=He (b.alloc b.size (Obj.cells (ab d az) 37));have ch:=He (a0.out.alloc (Obj.cells (ab d az) 37));rw [p] at S;clear R H I cz fz cg b p;generalize z.alloc (Obj.cells (ab d az) 37)=U at *
   go_still_tail 4,Hc
   change wpList _ _ _ _ _ U.drew;rw [if_neg (show ¬ c=4 by omega)];have r:Hid (U.drew.heap[w.heap.size+1]?=some (.cells (ab d az) 37 (0,0))):=S;have s:Hid (U.drew.heap[w.heap.size]?=some (.cells (ab 0 az) 37 (0,0))):=K;have u:Hid (Below w.heap.size w U.drew):=L.out.drew;have M:Hid (dK U.drew (some ⟨C.block,C.off+4,none⟩) (iO xs)):=fun i x hi=>by
    unfold iO at hi;have cp:xs[4+i]?=some x:=by
     rw [List.getElem?_take] at hi;split at hi
     ·rwa [List.getElem?_drop] at hi
     ·cases hi
    obtain ⟨cw,e,h⟩:=ch.out _ _ cp;injection e with e;subst e
    refine ⟨_,rfl,?_⟩;rw [cZ];rw [show 4+i=(3+i)+1 by omega,lS] at h;rw [show C.off+4+i=C.off+(3+i+1) by omega];exact h
   clear S K L ch;generalize U.drew=W3 at *;have T:=He (am (D:=ab d (iO xs)) r.out);have k:Hid ((W3.setRow (w.heap.size+1) (ab d (iO xs))).heap[w.heap.size]?=some (.cells (ab 0 az) 37 (0,0))):=by
    unfold Hid;rw [setRow_other W3 _ _ _ Ha];exact s.out
   have v:=He (below_setRow u.out (show w.heap.size<=w.heap.size+1 by omega) (ab d (iO xs)));have cq:=He (HY.out.keep v.out);have ci:=qN Z.out;have g:=He ci;refine vk rfl (.tmp 20) (.tmp 22) rfl (w.heap.size+1) d az (iO xs) rfl r.out ak ⟨C.block,C.off+4,none⟩ 60 (c-4) rfl Ha ci M.out ?_;generalize W3.setRow (w.heap.size+1) (ab d (iO xs))=W4 at *;clear r s u M;go_wp2_with (first
    | (refine aT rfl (.tmp 8) rfl (w.heap.size+1) rfl d (iO xs) g.out T.out ?_))
   by_cases a:mS d t
   ·obtain ⟨m,rfl⟩:∃ m:Nat,t=(m:Int):=⟨t.toNat,by unfold mS at a;omega⟩
    refine (xf l d m _ (iO xs) W4 hl a.1 (by unfold mS at a;omega) (bu _ _) g.out (oQ HB.out)).mono ?_;rintro e W5 ⟨v5,rfl,N,f⟩;obtain ⟨A5,d5,rfl,cs,cx,ck⟩:=bM N (fR g.out);rw [fR g.out];have HE:=He (oP A5 (some C) (cL l d m (iO xs)) xs 64 64 d5 c W5 (fR g.out) Z.out (mT hl a.1 (oQ HB.out)) HB.out ck (cq.out.keep f));have cr:Hid (W5.heap[w.heap.size+1]?=some (.cells (ab d (iO xs)) 37 (0,0))):=by
     unfold Hid;rw [f.block _ (ah T.out)];exact T.out
    have j:Hid (W5.heap[w.heap.size]?=some (.cells (ab 0 az) 37 (0,0))):=by
     unfold Hid;rw [f.block _ (ah k.out)];exact k.out
    have o:=He (aR v.out f);have y:=He a;clear N ck f a;go_wp2_with fail
    refine HE.out.mono ?_;rintro e W6 ⟨rfl,rfl⟩;by_cases V:cL l d m (iO xs)=xs
    ·have cl:mC l m xs:=⟨Z.out,by rw [q.out];exact y.out,by rw [q.out,Int.toNat_natCast];exact V⟩
     rw [decide_eq_true V];have cn:=He cl;clear cl V HE;go_wp2_with (first
      | (refine aT rfl (.tmp 8) rfl (w.heap.size+1) rfl d (iO xs) g.out cr.out ?_)
      | (refine ap rfl (.tmp 6) (.tmp 37) rfl w.heap.size rfl d 0 (iO xs) az rfl g.out ak j.out ?_))
     simp only [Exit.jump];refine bodyPost_ret (aY rfl _ _ w.heap.size d (iO xs) rfl g.out (am j.out)) rfl ?_;refine ⟨?_,below_setRow o.out (Nat.le_refl _) _⟩;unfold pE;rw [if_pos cn.out,decide_eq_true cn.out,q.out];rfl
    ·have HQ:=He V;rw [decide_eq_false V];clear V HE;go_wp2_with fail
     go_step3;refine ⟨rfl,⟨o.out,j.out,fun h=>HQ.out ?_⟩,_,_,_,_,_,_,_,_,_,_,_,_,_,_,_,_,_,_,_,_,_,_,_,_,_,_,_,_,_,_,_,_,_,_,_,_,_,_,rfl⟩;have h3:=h.2.2;rw [q.out,Int.toNat_natCast] at h3;exact h3
   ·refine (GU l d t _ (iO xs) W4 hl (by constructor <;> omega) ht (bu _ _) a).mono ?_;rintro e W5 ⟨rfl,f⟩;have j:Hid (W5.heap[w.heap.size]?=some (.cells (ab 0 az) 37 (0,0))):=by
     unfold Hid;rw [f.block _ (ah k.out)];exact k.out
    have o:=He (aR v.out f);have y:=He a;clear f a;go_wp2_with fail
    go_step3;refine ⟨rfl,⟨o.out,j.out,fun h=>y.out ?_⟩,_,_,_,_,_,_,_,_,_,_,_,_,_,_,_,_,_,_,_,_,_,_,_,_,_,_,_,_,_,_,_,_,_,_,_,_,_,_,rfl⟩;have h3:=h.2.1;rw [q.out] at h3;exact h3
  ·go_wp2_with (first
    | (refine aq rfl rfl ?_))
   go_step3;refine ⟨rfl,⟨I.out,H.out,fun h=>cc (Z.out.symm.trans h.1)⟩,_,_,_,_,_,_,_,_,_,_,_,_,_,_,_,_,_,_,_,_,_,_,_,_,_,_,_,_,_,_,_,_,_,_,_,_,_,_,rfl⟩
 ·rintro a' W ⟨HH,u0,u1,u2,u3,u4,u5,u7,u8,u9,a1,a2,a3,a4,a5,a6,a7,a8,a9,bb,bi,bk,bl,bn,bs,bt,bx,b0,b1,b2,b3,b4,u32,b5,b6,b8,b9,ca,cb,rfl⟩;have O:=HH.out.2.1;go_wp2_with (first
   | (refine bN rfl rfl ?_)
   | (refine ap rfl (.tmp 6) (.tmp 38) rfl w.heap.size rfl 0 0 az az rfl ak ak O ?_))
  simp only [Exit.jump];refine bodyPost_ret (aY rfl _ _ w.heap.size 0 az rfl ak (am O)) rfl ?_;refine ⟨?_,below_setRow HH.out.1 (Nat.le_refl _) _⟩;unfold pE;rw [if_neg HH.out.2.2,decide_eq_false HH.out.2.2];rfl
theorem nO (l k:Int) (n:Nat) (bs:List Int):Gt (cL l k n bs)=k:=rfl
theorem oR {l k:Int} {n:Nat} {bs:List Int} (h:bs.length=56):iO (cL l k n bs)=bs:=by
 show (bs++be (oO (jK l k n bs)) 4).take 56=bs;rw [<- h];exact List.take_left
theorem Cr {l a k:Int} {n m:Nat} {bs:List Int} (h:bs.length=56) (c:0<=k/\k<=7) (f:n<200) (g:m<200):mC a m (cL l k n bs)↔a=l/\m=n:=by
 constructor
 ·rintro ⟨_,_,b⟩;rw [nO,oR h,Int.toNat_natCast] at b;have d:a=l:=by have:=congrArg (fun x:List Int=>x.getD 1 0) b;exact this
  have e:be m 2=be n 2:=by have:=congrArg (fun x:List Int=>(x.drop 2).take 2) b;exact this
  exact ⟨d,AJ Ha Ha e⟩
 ·rintro ⟨rfl,rfl⟩;exact ⟨fR h,by rw [nO];exact ⟨c,Ha⟩,by rw [nO,oR h,Int.toNat_natCast]⟩
section
variable {ops:Array Oper} {rest:List Oper} {o:Oper} {a:Act} {w:World} {Q:Exit->Act->World->Prop}
end
section
variable {H:Type} {enc:TypeId × Value->H} {w:World} {base:Nat} {spare:Nat->Bool} {held:Bool}
end
section
variable {ops:Array Oper} {rest:List Oper} {o:Oper} {a:Act} {w:World} {Q:Exit->Act->World->Prop}
end
end Go.Proofs.YtegjelaejbacnaaGreat
