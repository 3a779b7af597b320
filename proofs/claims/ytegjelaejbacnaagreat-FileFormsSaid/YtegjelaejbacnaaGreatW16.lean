/- For FileForms: contracts and facts, part 16. -/
import Derived.Laws.ComplexArith
import Derived.Deep.DeepCutAuto
import Derived.StillTailTactics
import Derived.BigRegion
import Derived.Test.YtegjelaejbacnaaGreatW01
import Derived.Test.YtegjelaejbacnaaGreatW02
import Derived.Test.YtegjelaejbacnaaGreatW03
import Derived.Test.YtegjelaejbacnaaGreatW09
import Derived.Test.YtegjelaejbacnaaGreatW14
import Derived.Test.YtegjelaejbacnaaGreatW15
set_option maxRecDepth 100000
set_option maxHeartbeats 25600000
set_option linter.unusedVariables false
open Go Go.ChangeShapes Go.WideShapes Go.ChangeAt Go.RowKit
namespace Go.Proofs.YtegjelaejbacnaaGreat.Fx
def fi (x:Int):Nat:=floatOfInt .f64 x
theorem Dr (x:Int):fi x=Ieee.double.nearest (decide (x<0)) x.natAbs 0:=rfl
theorem Fq (r:Nat):Ieee.double.word true r=r+2 ^ 63:=by unfold Ieee.Format.word;simp [show Ieee.double.signWeight=2 ^ 63 from rfl];try omega
theorem pq (r:Nat):Ieee.double.word false r=r:=by unfold Ieee.Format.word;simp
theorem nt (neg:Bool) (n:Nat) (p:Int):Ieee.double.nearest neg n p=Ieee.double.word neg (Ieee.double.nearest false n p):=by
 unfold Ieee.Format.nearest;by_cases h:n=0
 ·rw [if_pos h,if_pos h,pq]
 ·rw [if_neg h,if_neg h,pq];have:∀ a b,Ieee.Toward.even.cut neg a b=Ieee.Toward.even.cut false a b:=fun a b=>rfl;simp only [this]
theorem te (neg:Bool) (r m:Nat) (p:Int) (hr:r<2 ^ 63) (h:Ieee.double.read r=.number false m p):Ieee.double.read (Ieee.double.word neg r)=.number neg m p:=by
 cases neg with
 | false=>rw [pq];exact h
 | true =>
   rw [Fq];unfold Ieee.Format.read at h ⊢;have s:Ieee.double.signWeight=2 ^ 63:=rfl;simp only [s] at h ⊢;have q1:(r+2 ^ 63)/2 ^ 63=1:=Ha;have q2:(r+2 ^ 63)%2 ^ 63=r:=Ha;have q3:r/2 ^ 63=0:=Ha;have q4:r%2 ^ 63=r:=Ha;rw [q1,q2];rw [q3,q4] at h;split
   ·rename_i h1;rw [if_pos h1] at h;simp only [Ieee.Datum.number.injEq] at h;rw [h.2.1,h.2.2];rfl
   ·rename_i h1;rw [if_neg h1] at h;split
    ·rename_i h2;rw [if_pos h2] at h;simp only [Ieee.Datum.number.injEq] at h;rw [h.2.1,h.2.2];rfl
    ·rename_i h2;rw [if_neg h2] at h;split at h <;> cases h
theorem Fs (n:Nat) (h:n<2 ^ 53):fb n<2 ^ 63:=by
 rw [fb_eq n h];unfold pz;split
 ·omega
 ·rename_i h0;have hL:n.log2<=52:=by have:=(Nat.log2_lt h0).2 h;omega
  have hb:n*2 ^ (52-n.log2)<2 ^ 53:=by
   have h2:=Nat.lt_log2_self (n:=n);have:n*2 ^ (52-n.log2)<2 ^ (n.log2+1)*2 ^ (52-n.log2):=Nat.mul_lt_mul_of_pos_right h2 (Nat.two_pow_pos _)
   rwa [<- Nat.pow_add,show n.log2+1+(52-n.log2)=53 by omega] at this
  have:(n.log2+1022)*2 ^ 52<=1074*2 ^ 52:=Nat.mul_le_mul_right _ Ha;omega
theorem mB (x:Int) (h:x.natAbs<2 ^ 53):∃ k:Nat,Ieee.double.read (fi x)=.number (decide (x<0)) (x.natAbs*2 ^ k) (-(k:Int)):=by
 obtain ⟨k,_,hk⟩:=jh x.natAbs h;refine ⟨k,?_⟩;rw [Dr,nt];refine te _ _ _ _ ?_ ?_
 ·have:=Fs x.natAbs h;rw [fb_eq _ h] at this;have e:=j4 x.natAbs 0 h Ha;simp only [Nat.pow_zero,Nat.mul_one] at e;rw [show (-((0:Nat):Int))=0 from rfl] at e;rw [e];exact this
 ·have e:fb x.natAbs=Ieee.double.nearest false x.natAbs 0:=by
   show Ieee.double.nearest (decide ((x.natAbs:Int)<0)) ((x.natAbs:Int)).natAbs 0=_;rw [show decide ((x.natAbs:Int)<0)=false by simp,Int.natAbs_natCast]
  rw [<- e];exact hk
theorem yr (x:Int) (h:2 ^ 53<=x.natAbs) (h2:x.natAbs<=2 ^ 63):∃ m e:Nat,2 ^ 52<=m/\Ieee.double.read (fi x)=.number (decide (x<0)) m (e:Int):=by
 generalize hn:x.natAbs=n at *;have h0:n≠0:=Ha;have hL1:53<=n.log2:=by
  have:=(Nat.le_log2 h0 (k:=53)).2 h;exact this
 have hL2:n.log2<=63:=by
  have h3:=Nat.log2_self_le h0;have:2 ^ n.log2<2 ^ 64:=Ha;have:=(Nat.pow_lt_pow_iff_right (a:=2) Ha).1 this;omega
 have hlo:=Nat.log2_self_le h0;have hhi:=Nat.lt_log2_self (n:=n);obtain ⟨q,hq⟩:∃ q,q=Ieee.Toward.even.cut false n (n.log2-52):=⟨_,rfl⟩
 have hqlo:2 ^ 52<=q/\q<=2 ^ 53:=by
  have hlow:2 ^ 52<=n/2 ^ (n.log2-52)/\n/2 ^ (n.log2-52)<2 ^ 53:=by
   constructor
   ·rw [Nat.le_div_iff_mul_le (Nat.two_pow_pos _),<- Nat.pow_add,show 52+(n.log2-52)=n.log2 by omega];exact hlo
   ·rw [Nat.div_lt_iff_lt_mul (Nat.two_pow_pos _),<- Nat.pow_add,show 53+(n.log2-52)=n.log2+1 by omega];exact hhi
  rw [hq];unfold Ieee.Toward.cut;have hmin:min (n.log2-52) (n.log2+2)=n.log2-52:=Ha;simp only [hmin,Nat.one_shiftLeft];generalize n/2 ^ (n.log2-52)=lo at *;have:=Bool.toNat_le (c:=(decide (2 ^ (n.log2-52)<2*(n%2 ^ (n.log2-52)))||(2 ^ (n.log2-52)==2*(n%2 ^ (n.log2-52))&&lo%2==1)));omega
 have hrung:Ieee.double.nearest false n 0=(n.log2+1022)*2 ^ 52+q:=by
  unfold Ieee.Format.nearest;rw [if_neg h0];have hl:max ((0:Int)+(n.log2:Nat)-(Ieee.double.fractionBits:Nat)) Ieee.double.leastPlace=(n.log2:Int)-52:=by
   rw [lp,show (Ieee.double.fractionBits:Int)=52 from rfl];omega
  simp only [hl];have a1:((n.log2:Int)-52-Ieee.double.leastPlace).toNat=n.log2+1022:=by rw [lp];omega
  have a4:Ieee.double.binade=2 ^ 52:=rfl;have e1:((0:Int)-((n.log2:Int)-52)).toNat=0:=Ha;have e2:(((n.log2:Int)-52)-0).toNat=n.log2-52:=Ha;rw [a1,a4,e1,e2,Nat.shiftLeft_eq,Nat.pow_zero,Nat.mul_one,<- hq];have hinf:Ieee.double.infRung=2047*2 ^ 52:=Hd;have:(n.log2+1022)*2 ^ 52<=1085*2 ^ 52:=Nat.mul_le_mul_right _ Ha;rw [hinf,Nat.min_eq_left (Nat.le_trans (Nat.add_le_add this hqlo.2) Hd),pq]
 have hread:∃ m e:Nat,2 ^ 52<=m/\Ieee.double.read ((n.log2+1022)*2 ^ 52+q)=.number false m (e:Int):=by
  generalize n.log2=L at *;unfold Ieee.Format.read;have s:Ieee.double.signWeight=2 ^ 63:=rfl;have b:Ieee.double.binade=2 ^ 52:=rfl;have i:Ieee.double.infRung=2047*2 ^ 52:=Hd;simp only [s,b,i,lp];have hm:(L+1022)*2 ^ 52<=1085*2 ^ 52:=Nat.mul_le_mul_right _ Ha;have hm2:1075*2 ^ 52<=(L+1022)*2 ^ 52:=Nat.mul_le_mul_right _ Ha;have q1:((L+1022)*2 ^ 52+q)/2 ^ 63=0:=Ha;have q2:((L+1022)*2 ^ 52+q)%2 ^ 63=(L+1022)*2 ^ 52+q:=Ha;rw [q1,q2,if_neg Ha,if_pos Ha];by_cases hq2:q=2 ^ 53
  ·have q4:((L+1022)*2 ^ 52+q)/2 ^ 52=L+1024:=Ha;have q3:((L+1022)*2 ^ 52+q)%2 ^ 52=0:=Ha;rw [q3,q4];refine ⟨2 ^ 52+0,L-51,Ha,?_⟩;have q6:(-1074:Int)+((L+1024-1:Nat):Int)=((L-51:Nat):Int):=Ha;rw [q6];rfl
  ·have q4:((L+1022)*2 ^ 52+q)/2 ^ 52=L+1023:=Ha;rw [q4];refine ⟨2 ^ 52+((L+1022)*2 ^ 52+q)%2 ^ 52,L-52,Nat.le_add_right _ _,?_⟩;have q6:(-1074:Int)+((L+1023-1:Nat):Int)=((L-52:Nat):Int):=Ha;rw [q6];rfl
 obtain ⟨m,e,hm,hr⟩:=hread;refine ⟨m,e,hm,?_⟩;rw [Dr,nt,hn,hrung];refine te _ _ _ _ ?_ hr;have:(n.log2+1022)*2 ^ 52<=1085*2 ^ 52:=Nat.mul_le_mul_right _ Ha;omega
theorem qF {a b c d:Int} (h:a<b↔c<d) (h2:a=b↔c=d):compare a b=compare c d:=by
 show compareOfLessAndEq a b=compareOfLessAndEq c d;unfold compareOfLessAndEq;by_cases e1:c<d
 ·rw [if_pos e1,if_pos (h.2 e1)]
 ·rw [if_neg e1,if_neg (fun q=>e1 (h.1 q))];by_cases e2:c=d
  ·rw [if_pos e2,if_pos (h2.2 e2)]
  ·rw [if_neg e2,if_neg (fun q=>e2 (h2.1 q))]
theorem om (x:Int) (u:Nat) (m:Nat):Ieee.signed (decide (x<0)) m u=if x<0 then -((m*2 ^ u:Nat):Int) else ((m*2 ^ u:Nat):Int):=by
 by_cases h:x<0
 ·rw [decide_eq_true h,if_pos h,uZ]
 ·rw [decide_eq_false h,if_neg h,kz]
theorem qG (x:Int) (t:Nat):(if x<0 then -((x.natAbs*t:Nat):Int) else ((x.natAbs*t:Nat):Int))=x*(t:Int):=by
 split
 ·rw [Int.natCast_mul,<- Int.neg_mul];congr 1;omega
 ·rw [Int.natCast_mul];congr 1;omega
theorem qH (x y:Int) (hx:x.natAbs<=2 ^ 63) (hy:y.natAbs<=100000):FloatKind.f64.format.order (fi x) (fi y)=some (compare x y):=by
 obtain ⟨j,hj⟩:=mB y Ha;show Ieee.Format.order Ieee.double _ _=_;unfold Ieee.Format.order;by_cases hs:x.natAbs<2 ^ 53
 ·obtain ⟨k,hk⟩:=mB x hs;rw [hk,hj];unfold Ieee.Datum.order;simp only [tU,Kh,Ki,om,oD _ k _ (Nat.le_max_left k j),oD _ j _ (Nat.le_max_right k j),qG]
  congr 1
  have p:(0:Int)<((2 ^ (max k j):Nat):Int):=by have:=Nat.two_pow_pos (max k j);omega
  generalize ((2 ^ (max k j):Nat):Int)=t at *;refine qF ⟨fun h=>Int.lt_of_mul_lt_mul_right h Ha,fun h=>Int.mul_lt_mul_of_pos_right h p⟩ ⟨fun h=>Int.eq_of_mul_eq_mul_right Ha h,fun h=>by rw [h]⟩
 ·obtain ⟨m,e,hm,hk⟩:=yr x Ha hx;rw [hk,hj];unfold Ieee.Datum.order;have e0:min (e:Int) (-(j:Int)) = -(j:Int):=Ha;have e1:((e:Int) - -(j:Int)).toNat=e+j:=Ha;have e2:(-(j:Int) - -(j:Int)).toNat=0:=Ha;simp only [e0,e1,e2,om,Nat.pow_zero,Nat.mul_one,qG]
  congr 1
  have p:(0:Int)<((2 ^ j:Nat):Int):=by have:=Nat.two_pow_pos j;omega
  have hM:(100001:Int)*((2 ^ j:Nat):Int)<=((m*2 ^ (e+j):Nat):Int):=by
   have h1:100001*2 ^ j<=m*2 ^ (e+j):=by
    have h2:2 ^ j<=2 ^ (e+j):=Nat.pow_le_pow_right Ha Ha;exact Nat.mul_le_mul Ha h2
   have h3:=Int.ofNat_le.2 h1;rw [Int.natCast_mul] at h3;exact h3
  have hyl:y*((2 ^ j:Nat):Int)<=100000*((2 ^ j:Nat):Int):=Int.mul_le_mul_of_nonneg_right Ha Ha;have hyg:(-100000)*((2 ^ j:Nat):Int)<=y*((2 ^ j:Nat):Int):=Int.mul_le_mul_of_nonneg_right Ha Ha;generalize ((2 ^ j:Nat):Int)=t at *;generalize y*t=yt at *;generalize ((m*2 ^ (e+j):Nat):Int)=M at *;by_cases h:x<0
  ·rw [if_pos h];exact qF ⟨fun _=>Ha,fun _=>Ha⟩ ⟨fun _=>Ha,fun _=>Ha⟩
  ·rw [if_neg h];exact qF ⟨fun _=>Ha,fun _=>Ha⟩ ⟨fun _=>Ha,fun _=>Ha⟩
theorem kj (x y:Int):compare x y=if x<y then .lt else if x=y then .eq else .gt:=rfl
theorem JP (x y:Int) (hx:x.natAbs<=2 ^ 63) (hy:y.natAbs<=100000):(FloatKind.f64.format.order (fi x) (fi y)==some .lt)=decide (x<y):=by
 rw [qH x y hx hy,kj];by_cases h:x<y
 ·rw [if_pos h,decide_eq_true h];rfl
 ·rw [if_neg h,decide_eq_false h];by_cases h2:x=y
  ·rw [if_pos h2];rfl
  ·rw [if_neg h2];rfl
theorem Ds (x:Int) (h:x.natAbs<2 ^ 53):(FloatKind.f64.decode (fi x)).toInt .zero=some x:=by
 obtain ⟨k,ha⟩:=mB x h;show (Ieee.double.read (fi x)).toInt .zero=_;rw [ha];unfold Ieee.Datum.toInt Ieee.Datum.integral;have e1:(-(k:Int)).toNat=0:=Ha;have e2:(- -(k:Int)).toNat=k:=Ha;simp only [e1,e2,Nat.shiftLeft_eq,Nat.pow_zero,Nat.mul_one];have hcz:∀ n:Bool,Ieee.Toward.zero.cut n (x.natAbs*2 ^ k) k=x.natAbs:=by
  intro n;have hh:Ieee.Toward.zero.cut n (x.natAbs*2 ^ k) k=Ieee.Toward.zero.cut false (x.natAbs*2 ^ k) k:=rfl;rw [hh];by_cases h0:x.natAbs=0
  ·rw [h0];unfold Ieee.Toward.cut;simp
  ·exact li .zero x.natAbs k (Or.inl (Nat.mul_ne_zero (by have:=Nat.two_pow_pos k;omega) h0))
 rw [hcz,om];have:=qG x 1;simp only [Nat.pow_zero,Nat.mul_one] at this ⊢;rw [this];simp
theorem Dt (q:IntKind) (x:Int) (h:x.natAbs<2 ^ 53) (h1:q.min<=x) (h2:x<=q.max):floatToIntVal .f64 (fi x) q=some x:=by
 unfold floatToIntVal;rw [Ds x h];dsimp only;rw [if_pos ⟨h1,h2⟩]
theorem GB (n:Nat):fi n=fb n:=rfl
theorem pw:fi 0=0:=(GB 0).trans tV
end Go.Proofs.YtegjelaejbacnaaGreat.Fx
namespace Go.Proofs.YtegjelaejbacnaaGreat
open Fx
theorem wC:fi 56=4633078116657397760:=by rw [show (56:Int)=((56:Nat):Int) from rfl,GB,fb_eq 56 Ha];decide
theorem Ft:(List.range 2400).all (fun n=>decide (FloatKind.f64.format.sub (fi ((n:Int)-1200)) (fi 56)=some (fi ((n:Int)-1200-56))))=true:=by decide +kernel
theorem Du (x:Int) (h : -1200<=x/\x<1200):FloatKind.f64.format.sub (fi x) 4633078116657397760=some (fi (x-56)):=by
 have h1:=List.all_eq_true.1 Ft (x+1200).toNat (List.mem_range.2 Ha);have h2:=of_decide_eq_true h1
 rwa [show (((x+1200).toNat:Nat):Int)=x+1200 by omega,show x+1200-1200=x by omega,wC] at h2
def oo (a b:Int):Value:=.complex .f64 (fi a) (fi b)
theorem Io {P:Program} (x:Int) (h:x.natAbs<=100000) (ts:Array TypeId) (t:TypeId) (w:World):(Builtin.max_ ts t #[.float .f64 (fi x),.float .f64 0]).run P w=.ok (.float .f64 (fi (if x<0 then 0 else x))) w:=by
 have ho:=qH x 0 Ha Hd;rw [pw] at ho;rcases Int.lt_trichotomy x 0 with hx | hx | hx
 ·have hc:compare x 0=.lt:=by rw [kj,if_pos hx]
  rw [hc] at ho;simp [Builtin.max_,Builtin.max2,ho,hx,pw]
 ·have hc:compare x 0=.eq:=by rw [kj,if_neg Ha,if_pos hx]
  rw [hc] at ho;subst hx;rw [pw] at ho ⊢;simp [Builtin.max_,Builtin.max2,ho,pw]
 ·have hc:compare x 0=.gt:=by rw [kj,if_neg Ha,if_neg Ha]
  rw [hc] at ho;simp [Builtin.max_,Builtin.max2,ho,show ¬ x<0 by omega]
theorem Ip {P:Program} (x:Int) (h:x.natAbs<=100000) (ts:Array TypeId) (t:TypeId) (w:World):(Builtin.min_ ts t #[.float .f64 (fi x),.float .f64 4633078116657397760]).run P w=.ok (.float .f64 (fi (if x<56 then x else 56))) w:=by
 have ho:=qH x 56 Ha Hd;rw [wC] at ho;rcases Int.lt_trichotomy x 56 with hx | hx | hx
 ·have hc:compare x 56=.lt:=by rw [kj,if_pos hx]
  rw [hc] at ho;simp [Builtin.min_,Builtin.min2,ho,hx]
 ·have hc:compare x 56=.eq:=by rw [kj,if_neg Ha,if_pos hx]
  rw [hc] at ho;subst hx;rw [wC] at ho ⊢;simp [Builtin.min_,Builtin.min2,ho,wC]
 ·have hc:compare x 56=.gt:=by rw [kj,if_neg Ha,if_neg Ha]
  rw [hc] at ho;simp [Builtin.min_,Builtin.min2,ho,show ¬ x<56 by omega,wC]
theorem Bt (a b:Int) (w:World):Calls Tryz.prog 133 #[.int .i64 a,.int .i64 b] w fun e w'=>e=.returned (oo a b)/\w=w':=by
 unfold oo fi;go_enter Tryz.func133,Tryz.ntmps133;go_wp2;go_ret;exact ⟨rfl,rfl⟩
theorem Fu (a b:Int) (ha:a.natAbs<=1200) (hb:b.natAbs<=1200) (w:World):Calls Tryz.prog 134 #[oo a b] w fun e w'=>e=.returned (oo (if a<0 then 0 else a) (if b<56 then b else 56))/\w=w':=by
 have h1:=fun ts t w=>Io (P:=Tryz.prog) a Ha ts t w;have h2:=fun ts t w=>Ip (P:=Tryz.prog) b Ha ts t w;unfold oo;generalize fi (if a<0 then 0 else a)=ra at *;generalize fi (if b<56 then b else 56)=rb at *;go_enter Tryz.func134,Tryz.ntmps134;go_wp2;go_ret;exact ⟨rfl,rfl⟩
theorem wD (a b:Int) (ha:a.natAbs<=1200) (hb:b.natAbs<=1200) (w:World):Calls Tryz.prog 135 #[oo a b] w fun e w'=>e=.returned (.bool (decide (a<b)))/\w=w':=by
 have h1:=JP a b Ha Ha;unfold oo;go_enter Tryz.func135,Tryz.ntmps135;go_wp2;go_ret;exact ⟨rfl,rfl⟩
theorem yu (a b:Int) (ha:a.natAbs<=1150) (hb:b.natAbs<=1150) (w:World):Calls Tryz.prog 137 #[oo a b] w fun e w'=>e=.returned (oo (a-56) (b-56))/\w=w':=by
 have h:=fun w:World=>run_complex_sum (P:=Tryz.prog) w .sub (.inr rfl) 177 .f64 (fi a) (fi b) 4633078116657397760 4633078116657397760 (fi (a-56)) (fi (b-56)) (by
  have e1:floatBits .sub .f64 (fi a) 4633078116657397760=some (fi (a-56)):=Du a Ha;have e2:floatBits .sub .f64 (fi b) 4633078116657397760=some (fi (b-56)):=Du b Ha;unfold cSumBits;rw [e1,e2];rfl)
 unfold oo;go_enter Tryz.func137,Tryz.ntmps137;go_wp2;go_ret;exact ⟨rfl,rfl⟩
def i6 (k a b:Int):Array Value:=#[.int .i64 k,.int .i64 a,.int .i64 b]
theorem yv:(Tryz.prog.info? 152).map (·.size)=some 3:=Hc
theorem yw {fn:Func} {p:Tmp} (h:fn.results=#[.cell p 152]) (tmps:Array Value) (w:World) (g:Nat) (k a b:Int) (hp:tmps.getD p undef=.pointer (some ⟨g,0,none⟩)) (hg:w.heap[g]?=some (.cells (i6 k a b) 152 (0,0))) :
 (results fn tmps).run Tryz.prog w=.ok (.agg (i6 k a b)) w :=
 results_cell_row h tmps w g _ _ _ _ hp hg Tryz.underlying152 rfl yv
theorem wE (k a b:Int) (ha:a.natAbs<=1200) (hb:b.natAbs<=1200) (w:World):Calls Tryz.prog 136 #[.int .i64 k,oo a b] w fun e w'=>e=.returned (.agg (i6 k a b))/\Below w.heap.size w w':=by
 have hmin:IntKind.i64.min = -9223372036854775808:=rfl;have hmax:IntKind.i64.max=9223372036854775807:=rfl;have v1:=fun w:World=>run_convert_float_int w 175 3 .f64 .i64 _ _ (P:=Tryz.prog) Hc Tryz.underlying3 (Dt .i64 a Ha Ha Ha);have v2:=fun w:World=>run_convert_float_int w 175 3 .f64 .i64 _ _ (P:=Tryz.prog) Hc Tryz.underlying3 (Dt .i64 b Ha Ha Ha);unfold oo;go_enter Tryz.func136,Tryz.ntmps136;go_wp2;refine bodyPost_ret (yw rfl _ _ w.heap.size k a b rfl (heap_alloc_new _ _)) rfl ?_;exact ⟨rfl,aK _⟩
abbrev Pc:=Nat × Nat × Nat
def encP (p:Pc):List Value:=[.int .i64 p.1,.int .i64 p.2.1,.int .i64 p.2.2]
theorem Bu (l:List Pc):kF encP 3 l:=fun x _=>rfl
theorem Dv (p:Pc):∀ v∈encP p,v.oneCell'=true:=fun v hv=>by
 unfold encP at hv;simp only [List.mem_cons,List.not_mem_nil,or_false] at hv;rcases hv with rfl | rfl | rfl <;> rfl
def pN (o e:Nat):Nat:=if e<=o then 0 else (e-1)/56-o/56+1
def Jb (o e i:Nat):Pc:=(o/56+i,if i=0 then o%56 else 0,if i+1=pN o e then (e-1)%56+1 else 56)
def pL (o e:Nat):List Pc:=(List.range (pN o e)).map (Jb o e)
theorem fJ (o e:Nat):(pL o e).length=pN o e:=by unfold pL;simp
theorem GC (o e i:Nat):(pL o e)[i]?=if i<pN o e then some (Jb o e i) else none:=by
 unfold pL;rw [List.getElem?_map];by_cases h:i<pN o e
 ·rw [List.getElem?_range h,if_pos h];rfl
 ·rw [List.getElem?_eq_none (by simp;omega),if_neg h];rfl
theorem zS (o e:Nat) (h:e<=1120):pN o e<=20:=by unfold pN;split <;> omega
theorem Fv (o e k:Nat) (a b:Int) (hoe:o<=e) (he:e<=1120) (ha:a=(o:Int)-56*k) (hb:b=(e:Int)-56*k) (h:(if a<0 then 0 else a)<(if b<56 then b else 56)) :
 ∃ x y:Nat,(if a<0 then 0 else a)=x/\(if b<56 then b else 56)=y/\(pL o e).take (k+1-o/56)=(pL o e).take (k-o/56)++[(k,x,y)]/\((pL o e).take (k-o/56)).length=k-o/56:=by
 have hq:o/56<=k:=by split at h <;> split at h <;> omega
 have hlt:o<e:=by split at h <;> split at h <;> omega
 have hke:56*k<e:=by split at h <;> split at h <;> omega
 have hN:pN o e=(e-1)/56-o/56+1:=by unfold pN;rw [if_neg Ha]
 refine ⟨(if a<0 then 0 else a).toNat,(if b<56 then b else 56).toNat,by split <;> omega,by split at h <;> split at h <;> omega,?_,by rw [List.length_take,fJ,hN];omega⟩;rw [show k+1-o/56=k-o/56+1 by omega];refine au ?_;rw [GC,if_pos Ha]
 congr 1
 unfold Jb;rw [hN];refine Prod.ext (by show o/56+(k-o/56)=k;omega) (Prod.ext ?_ ?_)
 ·show (if k-o/56=0 then o%56 else 0)=(if a<0 then 0 else a).toNat;split <;> split <;> omega
 ·show (if k-o/56+1=(e-1)/56-o/56+1 then (e-1)%56+1 else 56)=(if b<56 then b else 56).toNat;split <;> split <;> omega
theorem Fw (o e k:Nat) (a b:Int) (hoe:o<=e) (he:e<=1120) (ha:a=(o:Int)-56*k) (hb:b=(e:Int)-56*k) (h:¬ (if a<0 then 0 else a)<(if b<56 then b else 56)) :
 (pL o e).take (k+1-o/56)=(pL o e).take (k-o/56):=by
 by_cases hq:k<o/56
 ·rw [show k+1-o/56=0 by omega,show k-o/56=0 by omega]
 ·have hN:pN o e<=k-o/56:=by
   unfold pN;split
   ·omega
   ·split at h <;> split at h <;> omega
  rw [List.take_of_length_le (by rw [fJ];omega),List.take_of_length_le (by rw [fJ];omega)]
theorem Iq (o e:Nat) (he:e<=1120):(pL o e).take (20-o/56)=pL o e:=by
 refine List.take_of_length_le ?_;rw [fJ];unfold pN;split <;> omega
theorem Dw:(Tryz.prog.info? 152).map (fun i=>(i.zero,i.size,i.bytes))=some (some (.agg (i6 0 0 0)),3,24):=Hc
theorem wF {ops:Array Oper} {rest:List Oper} {o:Oper} {a:Act} {w:World} {Q:Exit->Act->World->Prop} (hgd:o.guard=none) (x:Operand) (ho:o.op=.buildSlice 149 1 #[(0,x)]) (k y z:Int) (hx:a.eval x=.agg (i6 k y z))
 (h:wpList Tryz.prog ops Q rest (a.put o.dst (.slice (some ⟨w.heap.size,0,none⟩) 1 1)) (w.alloc (.cells (i6 k y z) 152))):wpList Tryz.prog ops Q (o :: rest) a w:=by
 obtain ⟨i0,hi,hz0,hz1,hz2⟩:=info_parts Dw;exact wpList_plain hgd fun _ hK=>gf 149 x ho 152 i0 _ 3 Tryz.underlying149 hi hz0 hz1 Hd Hd _ hx rfl (hK _ _ h)
theorem Dx (w:World) (ty:TypeId) (base:Nat) (v:Value) (n:Nat) (l:List Pc) (hown:w.ownsRow base 152 3 v n (rowL encP l)) (g c:Nat) (p:Pc) (hg:w.heap[g]?=some (.cells (encP p).toArray 152 (0,0)))
 (h63:n+1<=1000) (hbase:base<=w.heap.size) :
 ∃ v' w',(Builtin.append_ #[149,149] ty #[v,.slice (some ⟨g,0,none⟩) 1 c]).run Tryz.prog w=.ok v' w'/\w'.ownsRow base 152 3 v' (n+1) (rowL encP (l++[p]))/\w.grownBy w' v.ownBlock:=by
 obtain ⟨i0,hi,hz0,hz1,hz2⟩:=info_parts Dw;obtain ⟨v',w',hr,h2,h3,h4,h5⟩:=run_append_own_at (P:=Tryz.prog) w base 149 ty 152 i0 _ 3 24 Tryz.underlying149 hi hz0 hz1 hz2 rfl Hd v n _ hown ⟨g,0,none⟩ 1 c (encP p) rfl
  (fun j u hj=>by
    rw [fP,af hg,List.getElem?_toArray];exact hj) (Dv p) (by simp only [maxLen];omega) Ha hbase
 exact ⟨v',w',hr,by rw [kG];simpa [rowL] using h2,h3⟩
theorem wG (w:World) {ops:Array Oper} {rest:List Oper} {o:Oper} {a:Act} {Q:Exit->Act->World->Prop} (hgd:o.guard=none) (s x:Operand)
 (ho:o.op=.call { callee:=.builtin .append,args:=#[s,x],argTypes:=#[149,149] })
 (base:Nat) (v:Value) (n:Nat) (l:List Pc) (hs:a.eval s=v) (hown:w.ownsRow base 152 3 v n (rowL encP l)) (g c:Nat) (p:Pc) (hx:a.eval x=.slice (some ⟨g,0,none⟩) 1 c) (hg:w.heap[g]?=some (.cells (encP p).toArray 152 (0,0)))
 (h63:n+1<=1000) (hbase:base<=w.heap.size)
 (h:∀ v' w',w'.ownsRow base 152 3 v' (n+1) (rowL encP (l++[p]))->w.grownBy w' v.ownBlock->wpList Tryz.prog ops Q rest (a.put o.dst v') w'):wpList Tryz.prog ops Q (o :: rest) a w :=
 wpList_plain hgd fun _ hK=>by
  obtain ⟨v',w',hr,h2,h3⟩:=Dx w o.type base v n l hown g c p hg h63 hbase;unfold Oper.wp execOp;simp only [ho,resolve,invoke,builtin,Sem.run_bind,Sem.run_pure,Result.andThen_ok,List.map_toArray,List.map_cons,List.map_nil,hs,hx,hr];exact hK _ _ (h v' w' h2 h3)
def iO (o n:Int):List Pc:=if 0<=o/\0<=n/\n<=1120-o then pL o.toNat (o+n).toNat else []
theorem nu (w:World) (E:TypeId) (B:Nat):w.ownsRow B E 3 (.slice none 0 0) 0 (rowL encP []):=⟨rfl,.inl ⟨rfl,rfl⟩⟩
theorem mC (o n:Int) (w:World) (ho : -9223372036854775808<=o/\o<=9223372036854775807) (hn : -9223372036854775808<=n/\n<=9223372036854775807):Calls Tryz.prog 72 #[.int .i64 o,.int .i64 n] w fun e w' =>
 ∃ v,e=.returned v/\w'.ownsRow w.heap.size 152 3 v (iO o n).length (rowL encP (iO o n))/\Below w.heap.size w w':=by
 by_cases h1:o<0
 ·have hm:iO o n=[]:=by unfold iO;rw [if_neg Ha]
  rw [hm];have HX:=nu w 152 w.heap.size;clear hm;go_enter Tryz.func72,Tryz.ntmps72;go_wp2;go_ret;exact ⟨_,rfl,HX,Below.refl _ _⟩
 by_cases h2:n<0
 ·have hm:iO o n=[]:=by unfold iO;rw [if_neg Ha]
  rw [hm];have HX:=nu w 152 w.heap.size;clear hm;go_enter Tryz.func72,Tryz.ntmps72;go_wp2;go_ret;exact ⟨_,rfl,HX,Below.refl _ _⟩
 have e1:IntKind.i64.wrap (1120-o)=1120-o:=IntWalk.i64_in _ Ha;by_cases h3:n > 1120-o
 ·have hm:iO o n=[]:=by unfold iO;rw [if_neg Ha]
  rw [hm];have HX:=nu w 152 w.heap.size;clear hm;go_enter Tryz.func72,Tryz.ntmps72;go_wp2;go_ret;exact ⟨_,rfl,HX,Below.refl _ _⟩
 obtain ⟨x,rfl⟩:∃ x:Nat,o=x:=⟨o.toNat,Ha⟩
 obtain ⟨y,hy⟩:∃ y:Nat,(x:Int)+n=y:=⟨((x:Int)+n).toNat,Ha⟩
 have hm:iO x n=pL x y:=by unfold iO;rw [if_pos Ha,hy];rfl
 rw [hm];have hxy:x<=y:=Ha;have hy2:y<=1120:=Ha;have e2:IntKind.i64.wrap ((x:Int)+n)=y:=by rw [hy];exact IntWalk.i64_in _ Ha
 have HR:=He (fun W=>Bt x y W);have HX:Hid (w.ownsRow w.heap.size 152 3 (.slice none 0 0) ([]:List Pc).length (rowL encP [])):=nu w _ _;clear hm hy;go_enter Tryz.func72,Tryz.ntmps72;go_wp2_with fail
 refine (HR.out _).mono ?_;rintro e w' ⟨rfl,rfl⟩;clear HR h1 h2 h3 e1 e2;go_wp2_with fail
 go_loopw [5,6,26] (fun v z i wr=>∃ k:Nat,∃ l:List Pc,k<=20/\i=.int .i64 k/\(∃ a b:Int,z=oo a b/\Hid (a=(x:Int)-56*k)/\Hid (b=(y:Int)-56*k))/\Hid (l=(pL x y).take (k-x/56))/\Hid (wr.ownsRow w.heap.size 152 3 v l.length (rowL encP l))/\Hid (Below w.heap.size w wr)) (fun _ _ i _=>(20-intOf i).toNat)
 case atStart=>exact ⟨0,[],Ha,rfl,⟨_,_,rfl,by unfold Hid;omega,by unfold Hid;omega⟩,(by unfold Hid;rw [Nat.zero_sub];rfl),HX,Below.refl _ _⟩
 case round =>
  obtain ⟨k,l,hk,rfl,⟨a,b,rfl,HA,HB⟩,HL,HO,HW⟩:=hrel;clear HX;have hxs:x/56<=20:=Ha;have hab:(-1150<=a/\a<=1150)/\(-1150<=b/\b<=1150):=by
   have h1:=HA.out;have h2:=HB.out;unfold Hid at *;omega
  by_cases hlt:k<20
  ·have H1:=He (fun W=>Fu a b Ha Ha W);have HN:=He (fun W=>yu a b Ha Ha W);have HNx:=He (show a-56=(x:Int)-56*(k+1:Nat) by have:=HA.out;unfold Hid at *;omega);have HNy:=He (show b-56=(y:Int)-56*(k+1:Nat) by have:=HB.out;unfold Hid at *;omega);by_cases hc:(if a<0 then 0 else a)<(if b<56 then b else 56)
   ·obtain ⟨p,q,hp,hq,hl,hll⟩:=Fv x y k a b hxy hy2 HA.out HB.out hc;have H2:=He (fun W=>wD (p:Int) (q:Int) Ha (by split at hq <;> omega) W);have H3:=He (fun W=>wE k (p:Int) (q:Int) Ha (by split at hq <;> omega) W);rw [hp,hq] at hc H1;rw [decide_eq_true hc] at H2;rw [<- HL.out] at hl hll;have HLN:=He hl;have HLL:Hid (l.length<=20):=by unfold Hid;omega
    clear hp hq hc hl hll HA HB hab;go_wp2_with fail
    refine (H1.out _).mono ?_;rintro e w' ⟨rfl,rfl⟩;go_wp2_with fail
    refine (H2.out _).mono ?_;rintro e w' ⟨rfl,rfl⟩;go_wp2_with fail
    refine (H3.out _).mono ?_;rintro e w2 ⟨rfl,hb2⟩;have HO2:=He (hU HO.out hb2);have HW2:=He (aP HW.out hb2);have HB3:=He (aK (w:=w2) (.cells (i6 k p q) 152));have HO3:=He (hU HO2.out HB3.out);have HW3:=He (aP HW2.out HB3.out);have HG3:=He (heap_alloc_new w2 (.cells (i6 k p q) 152));have HS3:Hid (w.heap.size<=(w2.alloc (.cells (i6 k p q) 152)).heap.size):=HW3.out.size;clear hb2 HO HW HO2 HW2 HB3 H1 H2 H3 HL;obtain ⟨m,hlm⟩:∃ m,m=l.length:=⟨_,rfl⟩
    rw [<- hlm] at HO3 HLL;have HLM:=He hlm.symm;clear hlm;go_wp2_with (first
     | (refine wF rfl (.tmp 36) rfl k p q rfl ?_)
     | (at_builtin
        go_loud (refine wG (w2.alloc (.cells (i6 k p q) 152)) rfl (.tmp 33) (.tmp 37) rfl w.heap.size u5 m l rfl HO3.out w2.heap.size 1 (k,p,q) rfl HG3.out (by have:=HLL.out;omega) HS3.out ?_)
        intro v4 w4 h4 hg4;have HO4:=He h4;have HW4:=He (GU HW3.out HO3.out hg4);clear h4 hg4 HO3 HW3 HG3 HS3))
    refine (HN.out _).mono ?_;rintro e w' ⟨rfl,rfl⟩;go_wp2_with fail
    go_roundw
    case rel =>
     refine ⟨k+1,l++[(k,p,q)],Ha,by go_num,⟨_,_,rfl,HNx.out,HNy.out⟩,HLN.out.symm,?_,HW4.out⟩;unfold Hid;rw [List.length_append,List.length_singleton,HLM.out];exact HO4.out
    case measure=>simp [intOf];omega
   ·have H2:=He (fun W=>wD (if a<0 then 0 else a) (if b<56 then b else 56) (by split <;> omega) (by split <;> omega) W);have hl:=Fw x y k a b hxy hy2 HA.out HB.out hc;rw [decide_eq_false hc] at H2;rw [<- HL.out] at hl;have HLN:=He hl;clear hl hc HA HB hab;generalize (if a<0 then 0 else a)=p at *;generalize (if b<56 then b else 56)=q at *;go_wp2_with fail
    refine (H1.out _).mono ?_;rintro e w' ⟨rfl,rfl⟩;go_wp2_with fail
    refine (H2.out _).mono ?_;rintro e w' ⟨rfl,rfl⟩;go_wp2_with fail
    refine (HN.out _).mono ?_;rintro e w' ⟨rfl,rfl⟩;go_wp2_with fail
    go_roundw
    case rel=>exact ⟨k+1,l,Ha,by go_num,⟨_,_,rfl,HNx.out,HNy.out⟩,HLN.out.symm,HO.out,HW.out⟩
    case measure=>simp [intOf];omega
  ·obtain rfl:k=20:=Ha;have hl:=HL.out;unfold Hid at hl;rw [Iq x y hy2] at hl;subst hl;clear HA HB hab HL;go_wp2_with fail
   go_ret;exact ⟨_,rfl,HO.out,HW.out⟩
def Dy (k:Int):Int:=if k<0\/20<=k then 0 else if k<4 then k else -1
def Dz (k:Int):Int:=if k<0\/20<=k then 0 else if k<4 then -1 else k-4
def Bv (k:Int):Value:=.tuple #[.int .i64 (Dy k),.int .i64 (Dz k),.bool (decide (0<=k/\k<20))]
theorem Bw (k:Int) (w:World) (hk : -9223372036854775808<=k/\k<=9223372036854775807):Calls Tryz.prog 138 #[.int .i64 k] w fun e w'=>e=.returned (Bv k)/\w=w':=by
 by_cases h1:k<0
 ·have e:Bv k=.tuple #[.int .i64 0,.int .i64 0,.bool false]:=by
   unfold Bv Dy Dz;rw [if_pos (Or.inl h1),if_pos (Or.inl h1),decide_eq_false Ha]
  rw [e];clear e;go_enter Tryz.func138,Tryz.ntmps138;go_wp2_with fail
  go_ret3
  exact ⟨rfl,rfl⟩
 by_cases h2:20<=k
 ·have e:Bv k=.tuple #[.int .i64 0,.int .i64 0,.bool false]:=by
   unfold Bv Dy Dz;rw [if_pos (Or.inr h2),if_pos (Or.inr h2),decide_eq_false Ha]
  rw [e];clear e;go_enter Tryz.func138,Tryz.ntmps138;go_wp2_with fail
  go_ret3
  exact ⟨rfl,rfl⟩
 by_cases h3:k<4
 ·have e:Bv k=.tuple #[.int .i64 k,.int .i64 (-1),.bool true]:=by
   have d1:Dy k=k:=by unfold Dy;rw [if_neg Ha,if_pos h3]
   have d2:Dz k = -1:=by unfold Dz;rw [if_neg Ha,if_pos h3]
   unfold Bv;rw [d1,d2,decide_eq_true Ha]
  rw [e];clear e;go_enter Tryz.func138,Tryz.ntmps138;go_wp2_with fail
  go_ret3
  exact ⟨rfl,rfl⟩
 ·have e:Bv k=.tuple #[.int .i64 (-1),.int .i64 (k-4),.bool true]:=by
   have d1:Dy k = -1:=by unfold Dy;rw [if_neg Ha,if_neg h3]
   have d2:Dz k=k-4:=by unfold Dz;rw [if_neg Ha,if_neg h3]
   unfold Bv;rw [d1,d2,decide_eq_true Ha]
  rw [e];have e4:IntKind.i64.wrap (k-4)=k-4:=IntWalk.i64_in _ Ha;clear e;go_enter Tryz.func138,Tryz.ntmps138;go_wp2_with fail
  go_ret3
  exact ⟨rfl,rfl⟩
theorem wH (a:Nat) (ha:a<18446744073709551616):(BitVec.ofInt 64 (a:Int)).toNat=a:=by
 rw [BitVec.ofInt_natCast,BitVec.toNat_ofNat];exact Nat.mod_eq_of_lt Ha
theorem Ir (a y:Nat) (ha:a<16777216) (hy:y<256):bits .or .i64 ((a:Int)*256) (y:Int)=((a*256+y:Nat):Int):=by
 rw [show (a:Int)*256=((a*256:Nat):Int) by omega];show IntKind.i64.wrap ((BitVec.ofInt 64 ((a*256:Nat):Int) ||| BitVec.ofInt 64 ((y:Nat):Int)).toNat:Int)=_;have h2:=Nat.two_pow_add_eq_or_of_lt (i:=8) (b:=y) Ha a;rw [show (2 ^ 8*a:Nat)=a*256 by omega] at h2;rw [BitVec.toNat_or,wH _ Ha,wH _ Ha,<- h2];exact IntWalk.i64_in _ Ha
theorem r3 (a b:Nat) (ha:a<256) (hb:b<256) (g o n c:Nat) (w:World) (hn:2<=n) (h1:w.cell? ⟨g,o,none⟩=some (.int .u8 a)) (h2:w.cell? ⟨g,o+1,none⟩=some (.int .u8 b)) :
 Calls Tryz.prog 172 #[.slice (some ⟨g,o,none⟩) n c] w fun e w'=>e=.returned (.int .i64 ((a*256+b:Nat)-1))/\Below w.heap.size w w':=by
 have k1:∀ q,(w.drewN q).cell? ⟨g,o,none⟩=some (.int .u8 a):=fun _=>h1;have k2:∀ q,(w.drewN q).cell? ⟨g,o+1,none⟩=some (.int .u8 b):=fun _=>h2;have e1:IntKind.i64.wrap (a:Int)=a:=IntWalk.i64_in _ Ha;have e2:IntKind.i64.wrap (b:Int)=b:=IntWalk.i64_in _ Ha;have e3:IntKind.i64.wrap ((a:Int)*256)=(a:Int)*256:=IntWalk.i64_in _ Ha;have e4:=Ir a b Ha hb;have e5:IntKind.i64.wrap (((a*256+b:Nat):Int) + -1)=((a*256+b:Nat):Int)-1:=IntWalk.i64_in _ Ha;have n0:(0:Nat)<n:=Ha;have n1:(1:Nat)<n:=Ha;have HB:=He (fun q=>EC (Below.refl w.heap.size w) q);generalize a*256+b=m at *;clear h1 h2;go_enter Tryz.func172,Tryz.ntmps172;go_upto_region 1 with fail
 go_quiet (fail)
 rename_i nq;have HB2:=He (HB.out nq);generalize w.drewN nq=W at *;go_wp2_with fail
 go_ret;exact ⟨rfl,HB2.out⟩
theorem ut (x:Int) (hx : -1<=x/\x<200) (g o n c:Nat) (u v:Value) (w:World) (hn:2<=n) (h1:w.cell? ⟨g,o,none⟩=some u) (h2:w.cell? ⟨g,o+1,none⟩=some v) (f1:∀ i,w.frozen? ⟨g,i,none⟩=false) :
 Calls Tryz.prog 176 #[.slice (some ⟨g,o,none⟩) n c,.int .i64 x] w fun e w'=>e=.returned (.tuple #[])/\w'=(w.setCell ⟨g,o,none⟩ (.int .u8 0)).setCell ⟨g,o+1,none⟩ (.int .u8 (x+1)):=by
 have e0:(x+1)/256=0:=Ha;go_enter Tryz.func176,Tryz.ntmps176;go_wp2_with fail
 go_end0
 exact ⟨rfl,rfl⟩
def uV (l:List Int) (j:Nat) (x:Int):Bool:=x == -1||(decide (1<=x)&&decide (x<200)&&!(l.take j).contains x)
def yx (l:List Int):Nat->Bool
 | 0=>true
 | j+1=>yx l j&&(match l[j]? with | some x=>uV l j x | none=>true)
def gJ (l:List Int):Bool:=decide (l.length=16)&&yx l 16
theorem oq {l:List Int} {j:Nat} {x:Int} (h:l[j]?=some x):yx l (j+1)=(yx l j&&uV l j x):=by
 show (yx l j&&(match l[j]? with | some x=>uV l j x | none=>true))=_;rw [h]
theorem qI {l:List Int}:∀ {m k:Nat},k<=m->yx l m=true->yx l k=true
 | 0,k,h,h1=>by rw [show k=0 by omega];rfl
 | m+1,k,h,h1=>by
   by_cases e:k=m+1
   ·rw [e];exact h1
   ·exact qI (show k<=m by omega) (by
     have h2:(yx l m&&(match l[m]? with | some x=>uV l m x | none=>true))=true:=h1;rw [Bool.and_eq_true] at h2;exact h2.1)
theorem nv {l:List Int} {j:Nat} {x:Int} (hj:j<16) (h:l[j]?=some x) (hx:uV l j x=false):gJ l=false:=by
 unfold gJ;cases he:yx l 16
 ·simp
 ·have:=qI (show j+1<=16 by omega) he;rw [oq h,hx] at this;simp at this
def NM (l:List Int) (j:Nat):List Value:=(List.range 200).map fun (k:Nat)=>Value.bool ((l.take j).contains (k:Int))
theorem uv (l:List Int):NM l 0=List.replicate 200 (.bool false):=by
 unfold NM;simp only [List.take_zero,List.contains_nil];rw [List.map_const',List.length_range]
theorem DB {l:List Int} {j k:Nat} (hk:k<200):(NM l j)[k]?=some (.bool ((l.take j).contains (k:Int))):=by
 unfold NM;rw [List.getElem?_map,List.getElem?_range hk];rfl
theorem Fy {l:List Int} {j:Nat} {x:Int} (h:l[j]?=some x) (hx:x = -1):NM l (j+1)=NM l j:=by
 unfold NM;refine List.map_congr_left fun k _=>?_;rw [au h,hx];simp
theorem It {l:List Int} {j k:Nat} (h:l[j]?=some (k:Int)) (hk:k<200):(NM l j).set k (.bool true)=NM l (j+1):=by
 apply List.ext_getElem?;intro i;by_cases hi:i<200
 ·rw [DB hi,au h,List.getElem?_set];by_cases e:k=i
  ·subst e;rw [if_pos rfl,if_pos (by unfold NM;simp;exact hk)];simp
  ·rw [if_neg e,DB hi];simp;intro e2;omega
 ·rw [List.getElem?_eq_none (by unfold NM;simp;omega),List.getElem?_eq_none (by unfold NM;simp;omega)]
theorem Iu:(Tryz.prog.info? 195).map (fun i=>(i.zero,i.size))=some (some (.agg (List.replicate 200 (Value.bool false)).toArray),200):=Hc
theorem o9 {ops:Array Oper} {rest:List Oper} {o:Oper} {a:Act} {w:World} {Q:Exit->Act->World->Prop} (hgd:o.guard=none) (ho:o.op=.alloc 195)
 (h:wpList Tryz.prog ops Q rest (a.put o.dst (.pointer (some ⟨w.heap.size,0,none⟩))) (w.alloc (.cells (NM [] 0).toArray 195))):wpList Tryz.prog ops Q (o :: rest) a w:=by
 have hi:=Iu;cases hq:Tryz.prog.info? 195 with
 | none=>rw [hq] at hi;cases hi
 | some i =>
   rw [hq] at hi;injection hi with hi;injection hi with hz hs
   rw [uv] at h;exact wpList_plain hgd fun _ hK=>bV 195 ho i _ hq hz (hK _ _ h)
theorem Bx (A:Option Addr) (l:List Int) (n d:Nat) (w:World) (hn:l.length=n) (hy:jf w A l) :
 Calls Tryz.prog 175 #[.slice A n d] w fun e w'=>e=.returned (.bool (gJ l))/\Below w.heap.size w w':=by
 by_cases h16:n=16
 ·subst h16;have HN:=He hn;have HY:=He hy;have HB0:=He (aK (w:=w) (.cells (NM [] 0).toArray 195));have HR0:Hid ((w.alloc (.cells (NM [] 0).toArray 195)).heap[w.heap.size]?=some (.cells (NM l 0).toArray 195 (0,0))):=by
   rw [show NM l 0=NM [] 0 by rw [uv,uv]];exact heap_alloc_new _ _
  clear hn hy;go_enter Tryz.func175,Tryz.ntmps175;go_upto_region 4 with (refine o9 rfl rfl ?_)
  generalize w.alloc (.cells (NM [] 0).toArray 195)=W at *;go_wp2_with fail
  go_loopw [11] (fun i wr=>∃ j:Nat,j<=16/\i=.int .i64 j/\Hid (yx l j=true)/\Hid (wr.heap[w.heap.size]?=some (.cells (NM l j).toArray 195 (0,0)))/\Hid (Below w.heap.size w wr)) (fun i _=>(16-intOf i).toNat)
  case atStart=>exact ⟨0,Ha,rfl,rfl,HR0,HB0⟩
  case round =>
   obtain ⟨j,hj,rfl,HO,HR,HB⟩:=hrel;clear HR0 HB0;by_cases hlt:j<16
   ·obtain ⟨x,hx⟩:∃ x,l[j]?=some x:=⟨_,List.getElem?_eq_getElem (by rw [HN.out];exact hlt)⟩
    obtain ⟨ad,rfl,hc⟩:=HY.out j x hx;have hc0:=cF HB.out hc;clear hc;by_cases h1:x = -1
    ·have HO2:Hid (yx l (j+1)=true):=by unfold Hid;rw [oq hx,HO.out];unfold uV;simp [h1]
     have HR2:Hid (wr.heap[w.heap.size]?=some (.cells (NM l (j+1)).toArray 195 (0,0))):=by rw [Fy hx h1];exact HR
     subst h1;clear hx;go_wp2_with fail
     go_roundw
     case rel=>exact ⟨j+1,Ha,by go_num,HO2.out,HR2.out,HB.out⟩
     case measure=>simp [intOf];omega
    ·by_cases h2:x<1
     ·have hm:=nv hlt hx (by unfold uV;simp [h1];omega);have HM:=He hm;clear hm hx;go_wp2_with fail
      go_ret;exact ⟨by rw [HM.out];rfl,HB.out⟩
     by_cases h3:200<=x
     ·have hm:=nv hlt hx (by unfold uV;simp [h1];omega);have HM:=He hm;clear hm hx;go_wp2_with fail
      go_ret;exact ⟨by rw [HM.out];rfl,HB.out⟩
     obtain ⟨k,rfl⟩:∃ k:Nat,x=k:=⟨x.toNat,Ha⟩
     have hk:k<200:=Ha;have cr:wr.cell? ⟨w.heap.size,k,none⟩=some (.bool ((l.take j).contains (k:Int))):=by
      rw [af HR.out,List.getElem?_toArray];exact DB hk
     have fr:wr.frozen? ⟨w.heap.size,k,none⟩=false:=az HR.out _;cases hcon:(l.take j).contains (k:Int)
     ·have HO2:Hid (yx l (j+1)=true):=by unfold Hid;rw [oq hx,HO.out];unfold uV;rw [hcon];simp;omega
      have HR2:Hid ((wr.setCell ⟨w.heap.size,k,none⟩ (.bool true)).heap[w.heap.size]?=some (.cells (NM l (j+1)).toArray 195 (0,0))):=by
       unfold Hid;rw [ah HR.out,List.setIfInBounds_toArray,It hx hk]
      have HB2:=He (HB.out.setCell (p:=⟨w.heap.size,k,none⟩) (Nat.le_refl _) (.bool true));rw [hcon] at cr;clear hcon hx;go_wp2_with fail
      go_roundw
      case rel=>exact ⟨j+1,Ha,by go_num,HO2.out,HR2.out,HB2.out⟩
      case measure=>simp [intOf];omega
     ·have hm:=nv hlt hx (by unfold uV;rw [hcon];simp [h1]);have HM:=He hm;rw [hcon] at cr;clear hm hx hcon;go_wp2_with fail
      go_ret;exact ⟨by rw [HM.out];rfl,HB.out⟩
   ·obtain rfl:j=16:=Ha;have hm:gJ l=true:=by unfold gJ;rw [HO.out,decide_eq_true HN.out];rfl
    have HM:=He hm;clear hm;go_wp2_with fail
    go_ret;exact ⟨by rw [HM.out];rfl,HB.out⟩
 ·have hm:gJ l=false:=by unfold gJ;rw [decide_eq_false Ha];rfl
  have hn2:¬ ((n:Int)=16):=Ha;rw [hm];go_enter Tryz.func175,Tryz.ntmps175;go_wp2;go_ret;exact ⟨rfl,Below.refl _ _⟩
def dm:List Int->List Int
 | []=>[]
 | x :: l=>0 :: (x+1) :: dm l
theorem dI:∀ l:List Int,(dm l).length=l.length*2
 | []=>rfl
 | x :: l=>by simp [dm,dI l];omega
theorem lB:∀ (l:List Int) (x:Int),dm (l++[x])=dm l++[0,x+1]
 | [],x=>rfl
 | y :: l,x=>by simp [dm,lB l x]
theorem Fz {l:List Int} {j:Nat} {x:Int} (h:uV l j x=true) : -1<=x/\x<200:=by
 unfold uV at h;simp at h;omega
theorem wI {l:List Int} (h:gJ l=true) {j:Nat} {x:Int} (hx:l[j]?=some x) : -1<=x/\x<200:=by
 unfold gJ at h;rw [Bool.and_eq_true] at h;have hl:=of_decide_eq_true h.1;have hj:=(List.getElem?_eq_some_iff.1 hx).1;have h2:=qI (show j+1<=16 by omega) h.2;rw [oq hx,Bool.and_eq_true] at h2;exact Fz h2.2
theorem tf:∀ {l:List Int},(∀ x∈l,-1<=x/\x<200)->ax (dm l)
 | [],_=>fun x hx=>by cases hx
 | y :: l,h=>fun x hx=>by
   have h1:=h y Hb;simp only [dm,List.mem_cons] at hx;rcases hx with rfl | rfl | hx
   ·omega
   ·omega
   ·exact tf (fun z hz=>h z (by simp [hz])) x hx
theorem wJ {l:List Int} (h:gJ l=true):l.length=16:=by
 unfold gJ at h;rw [Bool.and_eq_true] at h;exact of_decide_eq_true h.1
theorem kL {l:List Int} (h:gJ l=true):∀ x∈l,-1<=x/\x<200:=fun x hx=>by
 obtain ⟨j,hj⟩:=List.getElem?_of_mem hx;exact wI h hj
def jZ (l:List Int):Int:=if gJ l=true then 5 else 0
def jI (l:List Int):List Int:=if gJ l=true then dh (dm l) else ay
theorem uw (l:List Int):(jI l).length=56:=by
 unfold jI;split
 ·rename_i h;exact fH (by rw [dI,wJ h];omega)
 ·exact al
theorem qJ (l:List Int):ax (jI l):=by
 unfold jI;split
 ·rename_i h;exact qv (tf (kL h))
 ·exact dN
def Cp (l:List Int):Value:=.tuple #[.agg (ab (jZ l) (jI l)),.bool (gJ l)]
theorem tg (A:Option Addr) (l:List Int) (n d:Nat) (w:World) (hn:l.length=n) (hy:jf w A l) :
 Calls Tryz.prog 141 #[.slice A n d] w fun e w'=>e=.returned (Cp l)/\Below w.heap.size w w':=by
 have HM:=He (fun W h=>Bx A l n d W hn h);have HN:=He hn;have HY:=He hy;have HR0:=He (heap_alloc_new w (.cells (ab 0 ay) 37));have HB0:=He (aK (w:=w) (.cells (ab 0 ay) 37));have HY0:=He (hy.alloc (.cells (ab 0 ay) 37));cases hm:gJ l
 ·have hv:Cp l=.tuple #[.agg (ab 0 ay),.bool false]:=by
   have e1:jZ l=0:=by unfold jZ;rw [if_neg (by rw [hm];simp)]
   have e2:jI l=ay:=by unfold jI;rw [if_neg (by rw [hm];simp)]
   unfold Cp;rw [e1,e2,hm]
  rw [hv];rw [hm] at HM;clear hv hm hn hy;go_enter Tryz.func141,Tryz.ntmps141;go_upto_region 1 with (refine aq rfl rfl ?_)
  generalize w.alloc (.cells (ab 0 ay) 37)=W at *;go_wp2_with fail
  refine (HM.out _ HY0.out).mono ?_;rintro e w2 ⟨rfl,hb2⟩;have HR2:=He (kb hb2 HR0.out);have HB2:=He (aP HB0.out hb2);clear hb2 HR0 HB0;go_wp2_with (first
   | (refine bJ rfl rfl ?_)
   | (refine ap rfl (.tmp 2) (.tmp 10) rfl w.heap.size rfl 0 0 ay ay rfl al al HR2.out ?_))
  refine bodyPost_ret (aT rfl _ _ w.heap.size 0 ay rfl al (am HR2.out)) rfl ?_;exact ⟨rfl,below_setRow HB2.out (Nat.le_refl _) _⟩
 ·have e1:jZ l=5:=by unfold jZ;rw [if_pos hm]
  have e2:jI l=dh (dm l):=by unfold jI;rw [if_pos hm]
  have hv:Cp l=.tuple #[.agg (ab 5 (dh (dm l))),.bool true]:=by unfold Cp;rw [e1,e2,hm]
  rw [hv];rw [hm] at HM;have HRG:=He (fun j x (hx:l[j]?=some x)=>wI hm hx);have hl16:=wJ hm;rw [hn] at hl16;subst hl16;clear hv hm hn hy e1 e2;go_enter Tryz.func141,Tryz.ntmps141;go_upto_region 1 with (refine aq rfl rfl ?_)
  generalize w.alloc (.cells (ab 0 ay) 37)=W at *;go_wp2_with fail
  refine (HM.out _ HY0.out).mono ?_;rintro e w2 ⟨rfl,hb2⟩;have HR2:=He (kb hb2 HR0.out);have HB2:=He (aP HB0.out hb2);have hw2:w.heap.size<w2.heap.size:=ai HR2.out;clear hb2 HR0 HB0 HM;have h3:=heap_alloc_new w2 (.cells (ab 0 ay) 37);have HR3:Hid (((w2.alloc (.cells (ab 0 ay) 37)).setRow w2.heap.size (ab 5 ay)).heap[w.heap.size]?=some (.cells (ab 0 ay) 37 (0,0))):=by
   unfold Hid;rw [setRow_other _ _ _ _ Ha];exact kb (aK _) HR2.out
  have HG3:Hid (((w2.alloc (.cells (ab 0 ay) 37)).setRow w2.heap.size (ab 5 ay)).heap[w2.heap.size]?=some (.cells (ab 5 (dh [])) 37 (0,0))):=am h3;have HB3:=He (below_setRow (aP HB2.out (aK (.cells (ab 0 ay) 37))) (Nat.le_of_lt hw2) (ab 5 ay));go_upto_region 4 with (first
   | (refine aq rfl rfl ?_)
   | (refine iX rfl (.const (.int .i64 5)) 5 rfl rfl ?_)
   | (refine ap rfl (.tmp 4) (.tmp 11) rfl w2.heap.size rfl 5 0 ay ay rfl al al h3 ?_))
  clear h3 HR2 HB2;generalize (w2.alloc (.cells (ab 0 ay) 37)).setRow w2.heap.size (ab 5 ay)=w3 at *;generalize w2.heap.size=r at *;go_wp2_with fail
  go_loopw [14] (fun i wr=>∃ j:Nat,j<=16/\i=.int .i64 j/\Hid (wr.heap[r]?=some (.cells (ab 5 (dh (dm (l.take j)))) 37 (0,0)))/\Hid (wr.heap[w.heap.size]?=some (.cells (ab 0 ay) 37 (0,0)))/\Hid (Below w.heap.size w wr)) (fun i _=>(16-intOf i).toNat)
  case atStart=>exact ⟨0,Ha,rfl,by rw [List.take_zero];exact HG3,HR3,HB3⟩
  case round =>
   obtain ⟨j,hj,rfl,HG,HR,HB⟩:=hrel;clear HG3 HR3 HB3;by_cases hlt:j<16
   ·obtain ⟨x,hx⟩:∃ x,l[j]?=some x:=⟨_,List.getElem?_eq_getElem (by rw [HN.out];exact hlt)⟩
    obtain ⟨ad,rfl,hc⟩:=HY.out j x hx;have hc0:=cF HB.out hc;have hrg:=HRG.out j x hx;have hel:(dm (l.take j)).length=j*2:=by rw [dI,List.length_take,HN.out,Nat.min_eq_left Ha]
    have hsl:∀ W,(Instr.sliceAt 35 (.pointer (some ⟨r,1,none⟩)) (some (.int .i64 ((j:Int)*2))) none none).run Tryz.prog W=.ok (.slice (some ⟨r,1+j*2,none⟩) (56-j*2) (56-j*2)) W:=fun W=>by
     have h:=jA r (m:=j*2) Ha W
     rwa [Int.natCast_mul] at h
    have hp1:=pp (ys:=dm (l.take j)) (y:=0) Ha;have hp2:=pp (ys:=dm (l.take j)++[0]) (y:=x+1) (by rw [List.length_append,hel];simp;omega);rw [hel] at hp1;rw [List.length_append,hel,List.length_singleton,List.append_assoc] at hp2;have hnx:dm (l.take (j+1))=dm (l.take j)++([0]++[x+1]):=by rw [au hx,lB];rfl
    have hg1:=ah (i:=1+j*2) HG.out (.int .u8 0);rw [ld,hp1] at hg1;have hg2:=ah (i:=1+j*2+1) hg1 (.int .u8 (x+1));rw [Nat.add_assoc,ld,hp2,<- hnx] at hg2;have HG2:=He hg2;have HR2:Hid (((wr.setCell ⟨r,1+j*2,none⟩ (.int .u8 0)).setCell ⟨r,1+(j*2+1),none⟩ (.int .u8 (x+1))).heap[w.heap.size]?=some (.cells (ab 0 ay) 37 (0,0))):=by
     unfold Hid;rw [heap_setCell_other _ _ _ _ (show w.heap.size≠r by omega),heap_setCell_other _ _ _ _ (show w.heap.size≠r by omega)];exact HR.out
    have HB2:=He ((HB.out.setCell (p:=⟨r,1+j*2,none⟩) (Nat.le_of_lt hw2) (.int .u8 0)).setCell (p:=⟨r,1+(j*2+1),none⟩) (Nat.le_of_lt hw2) (.int .u8 (x+1)));have cx:∀ i,i<56->∃ u,wr.cell? ⟨r,1+i,none⟩=some u:=fun i hi=>by
     have hp:=fH (ys:=dm (l.take j)) Ha;exact ⟨_,(af HG.out _).trans (Array.getElem?_eq_getElem (by rw [aN hp];omega))⟩
    obtain ⟨u1,hu1⟩:=cx (j*2) Ha;obtain ⟨u2,hu2⟩:=cx (j*2+1) Ha;have HPP:=He (ut x hrg r (1+j*2) (56-j*2) (56-j*2) u1 u2 wr Ha hu1 (by rw [Nat.add_assoc];exact hu2) (fun i=>az HG.out i));clear hp1 hp2 hnx hg1 hg2 cx hu1 hu2 hel hx hc hrg;go_wp2_with fail
    refine HPP.out.mono ?_;rintro e w4 ⟨rfl,rfl⟩;rw [Nat.add_assoc];generalize (wr.setCell ⟨r,1+j*2,none⟩ (.int .u8 0)).setCell ⟨r,1+(j*2+1),none⟩ (.int .u8 (x+1))=w5 at *;go_wp2_with fail
    go_roundw
    case rel=>exact ⟨j+1,Ha,by go_num,HG2.out,HR2.out,HB2.out⟩
    case measure=>simp [intOf];omega
   ·obtain rfl:j=16:=Ha;have e:l.take 16=l:=List.take_of_length_le (by rw [HN.out];omega);rw [e] at HG;have HL:=He (fH (ys:=dm l) (by rw [dI,HN.out];omega));clear e;go_wp2_with (first
     | (refine aQ rfl (.tmp 4) rfl r rfl 5 (dh (dm l)) HL.out HG.out ?_)
     | (refine ap rfl (.tmp 2) (.tmp 26) rfl w.heap.size rfl 5 0 (dh (dm l)) ay rfl HL.out al HR.out ?_))
    refine bodyPost_ret (aT rfl _ _ w.heap.size 5 (dh (dm l)) rfl HL.out (am HR.out)) rfl ?_;exact ⟨rfl,below_setRow HB.out (Nat.le_refl _) _⟩
def By (bs:List Int) (i:Nat):Int:=bs.getD (i*2) 0*256+bs.getD (i*2+1) 0-1
def di (bs:List Int):List Int:=(List.range 16).map (By bs)
def DC (bs:List Int) (j:Nat):List Int:=(List.range 16).map fun i=>if i<j then By bs i else 0
theorem dK (bs:List Int):(di bs).length=16:=by unfold di;simp
theorem mD (bs:List Int) (j:Nat):(DC bs j).length=16:=by unfold DC;simp
theorem Iv (bs:List Int) {i:Nat} (h:i<16):(di bs)[i]?=some (By bs i):=by
 unfold di;rw [List.getElem?_map,List.getElem?_range h];rfl
theorem yy (bs:List Int) (j:Nat) {i:Nat} (h:i<16):(DC bs j)[i]?=some (if i<j then By bs i else 0):=by
 unfold DC;rw [List.getElem?_map,List.getElem?_range h];rfl
def Jc:List Int:=List.replicate 16 0
theorem FA (bs:List Int):DC bs 16=di bs:=by
 unfold DC di;refine List.map_congr_left fun i hi=>?_;rw [if_pos (List.mem_range.1 hi)]
theorem FB (bs:List Int) {j:Nat} (h:j<16):(DC bs j).set j (By bs j)=DC bs (j+1):=by
 apply List.ext_getElem?;intro i;by_cases hi:i<16
 ·rw [yy bs (j+1) hi,List.getElem?_set,mD];by_cases e:j=i
  ·subst e;rw [if_pos rfl,if_pos h,if_pos Ha]
  ·rw [if_neg e,yy bs j hi];by_cases h2:i<j
   ·rw [if_pos h2,if_pos Ha]
   ·rw [if_neg h2,if_neg Ha]
 ·rw [List.getElem?_eq_none (by simp [mD];omega),List.getElem?_eq_none (by rw [mD];omega)]
theorem Iw (L:List Int) (j:Nat) (x:Int):(Is L).toArray.setIfInBounds j (.int .i64 x)=(Is (L.set j x)).toArray:=by
 unfold Is;simp [List.map_set]
def rD (k:Int) (bs:List Int):Bool:=gJ (di bs)&&decide (k=5/\dh (dm (di bs))=bs)
def tkL (k:Int) (bs:List Int):List Int:=if rD k bs=true then di bs else []
theorem DD:madeCells (Value.int .i64 0).cells 16=(Is Jc).toArray:=Hc
theorem r4 {ops:Array Oper} {rest:List Oper} {o:Oper} {a:Act} {w:World} {Q:Exit->Act->World->Prop} (hgd:o.guard=none) (ho:o.op=.makeSlice 33 (.const (.int .i64 16)) (.const (.int .i64 16)))
 (h:wpList Tryz.prog ops Q rest (a.put o.dst (.slice (some ⟨w.heap.size,0,none⟩) 16 16)) (w.alloc (.cells (Is Jc).toArray 3))):wpList Tryz.prog ops Q (o :: rest) a w:=by
 obtain ⟨i0,hi,hz0,hz1,hz2⟩:=info_parts zk;refine wpList_plain hgd fun _ hK=>ju ?_ (hK _ _ h);have hr:=run_make (P:=Tryz.prog) w 33 3 i0 _ Tryz.underlying33 hi hz0 .i64 .i64 16 16 Ha Ha (by rw [hz2];decide) Ha;rw [hz1,show (16:Int).toNat=16 from rfl,Nat.mul_one,DD] at hr;unfold execOp;simp only [ho,Act.eval,Sem.run_bind,hr,Result.andThen_ok,Sem.run_pure]
theorem ux {W:World} {q:Nat} {L:List Int} (h:W.heap[q]?=some (.cells (Is L).toArray 3 (0,0))):jf W (some ⟨q,0,none⟩) L:=zj h Hb
theorem Ix {W:World} {q B n:Nat} {L:List Int} (hn:L.length=n) (hm:n<=1000000) (h:W.heap[q]?=some (.cells (Is L).toArray 3 (0,0))) (hq:B<=q):W.ownsRow B 3 1 (.slice (some ⟨q,0,none⟩) n n) n (Is L) :=
 ⟨by rw [ce];omega,.inr ⟨q,n,_,rfl,hq,h,Nat.le_refl _,by simp only [maxLen];omega,by simp [ce];omega,by simp;rw [List.take_of_length_le (by rw [ce];omega)]⟩⟩
theorem qK (k:Int) (bs:List Int) (w:World) (h56:bs.length=56) (hB:ax bs) :
 Calls Tryz.prog 131 #[.agg (ab k bs)] w fun e w'=>∃ v,e=.returned (.tuple #[v,.bool (rD k bs)])/\w'.ownsRow w.heap.size 3 1 v (tkL k bs).length (Is (tkL k bs))/\Below w.heap.size w w':=by
 have HP:=He (heap_alloc_new w (.cells (ab k bs) 37));have HB0:=He (aK (w:=w) (.cells (ab k bs) 37));have H56:=He h56;have HBB:=He hB;clear h56 hB;go_enter Tryz.func131,Tryz.ntmps131;go_upto_region 1 with fail
 generalize w.alloc (.cells (ab k bs) 37)=W at *;have hp:=ai HP.out;have HQ1:Hid ((W.alloc (.cells (Is Jc).toArray 3)).heap[W.heap.size]?=some (.cells (Is (DC bs 0)).toArray 3 (0,0))):=heap_alloc_new W _;have HP1:=He (kb (aK (.cells (Is Jc).toArray 3)) HP.out);have HB1:=He (aP HB0.out (aK (.cells (Is Jc).toArray 3)));go_upto_region 2 with (refine r4 rfl rfl ?_)
 clear HP HB0;generalize W.alloc (.cells (Is Jc).toArray 3)=W1 at *;generalize W.heap.size=q at *;have hq:w.heap.size<=q:=Nat.le_of_lt hp;go_wp2_with fail
 go_loopw [11] (fun i wr=>∃ j:Nat,j<=16/\i=.int .i64 j/\Hid (wr.heap[q]?=some (.cells (Is (DC bs j)).toArray 3 (0,0)))/\Hid (wr.heap[w.heap.size]?=some (.cells (ab k bs) 37 (0,0)))/\Hid (Below w.heap.size w wr)) (fun i _=>(16-intOf i).toNat)
 case atStart=>exact ⟨0,Ha,rfl,HQ1,HP1,HB1⟩
 case round =>
  obtain ⟨j,hj,rfl,HQ,HP,HB⟩:=hrel;clear HQ1 HP1 HB1;by_cases hlt:j<16
  ·have hsl:∀ W,(Instr.sliceAt 35 (.pointer (some ⟨w.heap.size,1,none⟩)) (some (.int .i64 ((j:Int)*2))) none none).run Tryz.prog W=.ok (.slice (some ⟨w.heap.size,1+j*2,none⟩) (56-j*2) (56-j*2)) W:=fun W=>by
    have h:=jA w.heap.size (m:=j*2) Ha W
    rwa [Int.natCast_mul] at h
   have bt:∀ i,i<56->∃ a:Nat,a<256/\bs.getD i 0=a/\wr.cell? ⟨w.heap.size,1+i,none⟩=some (.int .u8 a):=fun i hi=>by
    obtain ⟨x,hx⟩:∃ x,bs[i]?=some x:=⟨_,List.getElem?_eq_getElem (by rw [H56.out];exact hi)⟩
    have h1:=HBB.out x (List.mem_of_getElem? hx);refine ⟨x.toNat,Ha,by rw [List.getD,hx];show x=_;omega,?_⟩;rw [af HP.out,show ((x.toNat:Nat):Int)=x by omega];show (ab k bs)[1+i]?=_;unfold ab blkL;rw [List.getElem?_toArray,Nat.add_comm,List.getElem?_cons_succ];exact ku hx
   obtain ⟨a,ha,ea,ca⟩:=bt (j*2) Ha;obtain ⟨b,hb,eb,cb⟩:=bt (j*2+1) Ha;have HX:Hid (By bs j=((a*256+b:Nat):Int)-1):=by unfold Hid By;rw [ea,eb];omega
   have HT:=He (r3 a b ha hb w.heap.size (1+j*2) (56-j*2) (56-j*2) wr Ha ca (by rw [Nat.add_assoc];exact cb));rw [<- HX.out] at HT;have HSET:=He (FB bs hlt);generalize By bs j=x at *;clear bt ea eb ca cb HX;go_wp2_with fail
   refine HT.out.mono ?_;rintro e w2 ⟨rfl,hb2⟩;have HQ2:=He (kb hb2 HQ.out);have HP2:=He (kb hb2 HP.out);have HB2:=He (aP HB.out hb2);have c1:w2.cell? ⟨q,j,none⟩=some (.int .i64 0):=by
    rw [af HQ2.out,List.getElem?_toArray];have h:=yy bs j hlt;rw [if_neg Ha] at h;exact uX h
   have f1:w2.frozen? ⟨q,j,none⟩=false:=az HQ2.out _;have HQ3:Hid ((w2.setCell ⟨q,j,none⟩ (.int .i64 x)).heap[q]?=some (.cells (Is (DC bs (j+1))).toArray 3 (0,0))):=by
    unfold Hid;rw [ah HQ2.out,Iw,HSET.out]
   have HP3:Hid ((w2.setCell ⟨q,j,none⟩ (.int .i64 x)).heap[w.heap.size]?=some (.cells (ab k bs) 37 (0,0))):=by
    unfold Hid;rw [heap_setCell_other _ _ _ _ (show w.heap.size≠q by omega)];exact HP2.out
   have HB3:=He (HB2.out.setCell (p:=⟨q,j,none⟩) (Nat.le_of_lt hp) (.int .i64 x));clear hb2 HQ HP HB HQ2 HP2 HB2;go_wp2_with fail
   go_roundw
   case rel=>exact ⟨j+1,Ha,by go_num,HQ3.out,HP3.out,HB3.out⟩
   case measure=>simp [intOf];omega
  ·obtain rfl:j=16:=Ha;rw [FA] at HQ;have HPUT:=He (fun W h=>tg (some ⟨q,0,none⟩) (di bs) 16 16 W (dK bs) h);have HY:=He (ux HQ.out);have H5:=He (dK bs);clear hp;go_wp2_with fail
   refine (HPUT.out _ HY.out).mono ?_;rintro e w4 ⟨rfl,hb4⟩;have HQ4:=He (kb hb4 HQ.out);have HP4:=He (kb hb4 HP.out);have HB4:=He (aP HB.out hb4);have hp4:=ai HP4.out;have hq4:=ai HQ4.out;clear hb4 HQ HP HB HY HPUT;have HLB:=He (uw (di bs));have HAB:=He (qJ (di bs));have h6:=heap_alloc_new w4 (.cells (ab 0 ay) 37);have HC5:Hid (((w4.alloc (.cells (ab 0 ay) 37)).setRow w4.heap.size (ab (jZ (di bs)) (jI (di bs)))).heap[w4.heap.size]?=some (.cells (ab (jZ (di bs)) (jI (di bs))) 37 (0,0))):=am h6;have HP5:Hid (((w4.alloc (.cells (ab 0 ay) 37)).setRow w4.heap.size (ab (jZ (di bs)) (jI (di bs)))).heap[w.heap.size]?=some (.cells (ab k bs) 37 (0,0))):=by
    unfold Hid;rw [setRow_other _ _ _ _ Ha];exact kb (aK _) HP4.out
   have HQ5:Hid (((w4.alloc (.cells (ab 0 ay) 37)).setRow w4.heap.size (ab (jZ (di bs)) (jI (di bs)))).heap[q]?=some (.cells (Is (di bs)).toArray 3 (0,0))):=by
    unfold Hid;rw [setRow_other _ _ _ _ Ha];exact kb (aK _) HQ4.out
   have HB5:=He (below_setRow (aP HB4.out (aK (.cells (ab 0 ay) 37))) (Nat.le_of_lt hp4) (ab (jZ (di bs)) (jI (di bs))));unfold Cp;go_upto_region 8 with (first
    | (refine aq rfl rfl ?_)
    | (refine ap rfl (.tmp 6) (.tmp 26) rfl w4.heap.size rfl (jZ (di bs)) 0 (jI (di bs)) ay rfl HLB.out al h6 ?_))
   clear h6 HQ4 HP4 HB4;generalize (w4.alloc (.cells (ab 0 ay) 37)).setRow w4.heap.size (ab (jZ (di bs)) (jI (di bs)))=w5 at *;generalize w4.heap.size=c at *;cases hm:gJ (di bs)
   ·have HT:Hid (rD k bs=false):=by unfold Hid rD;rw [hm];rfl
    have HL:Hid (tkL k bs=[]):=by unfold Hid tkL;rw [if_neg (by rw [HT.out];simp)]
    clear hm;go_wp2_with fail
    go_ret2
    refine ⟨_,by rw [HT.out];rfl,?_,HB5.out⟩;rw [HL.out];exact ⟨rfl,.inl ⟨rfl,rfl⟩⟩
   ·have e1:jZ (di bs)=5:=by unfold jZ;rw [if_pos hm]
    have e2:jI (di bs)=dh (dm (di bs)):=by unfold jI;rw [if_pos hm]
    by_cases hc:5=k/\dh (dm (di bs))=bs
    ·have HT:Hid (rD k bs=true):=by unfold Hid rD;rw [hm,decide_eq_true ⟨hc.1.symm,hc.2⟩];rfl
     have HL:Hid (tkL k bs=di bs):=by unfold Hid tkL;rw [if_pos HT.out]
     have HD:Hid ((!(decide (jZ (di bs)=k/\jI (di bs)=bs)))=false):=by unfold Hid;rw [e1,e2,decide_eq_true hc];rfl
     have HO:=He (Ix (B:=w.heap.size) (dK bs) Ha HQ5.out hq);clear hm hc e1 e2;go_wp2_with (first
      | (refine aO Hl (.tmp 6) rfl c rfl (jZ (di bs)) (jI (di bs)) HLB.out HC5.out ?_)
      | (refine aO Hl (.tmp 1) rfl w.heap.size rfl k bs H56.out HP5.out ?_)
      | (refine cy Hl (.tmp 31) (.tmp 32) _ rfl (jZ (di bs)) k (jI (di bs)) bs rfl rfl HLB.out H56.out HAB.out HBB.out ?_;rw [HD.out]))
     go_ret2
     refine ⟨_,by rw [HT.out];rfl,?_,HB5.out⟩;rw [HL.out,H5.out];exact HO.out
    ·have HT:Hid (rD k bs=false):=by unfold Hid rD;rw [hm,decide_eq_false (fun h=>hc ⟨h.1.symm,h.2⟩)];rfl
     have HL:Hid (tkL k bs=[]):=by unfold Hid tkL;rw [if_neg (by rw [HT.out];simp)]
     have HD:Hid ((!(decide (jZ (di bs)=k/\jI (di bs)=bs)))=true):=by unfold Hid;rw [e1,e2,decide_eq_false hc];rfl
     clear hm hc e1 e2;go_wp2_with (first
      | (refine aO Hl (.tmp 6) rfl c rfl (jZ (di bs)) (jI (di bs)) HLB.out HC5.out ?_)
      | (refine aO Hl (.tmp 1) rfl w.heap.size rfl k bs H56.out HP5.out ?_)
      | (refine cy Hl (.tmp 31) (.tmp 32) _ rfl (jZ (di bs)) k (jI (di bs)) bs rfl rfl HLB.out H56.out HAB.out HBB.out ?_;rw [HD.out]))
     go_ret2
     refine ⟨_,by rw [HT.out];rfl,?_,HB5.out⟩;rw [HL.out];exact ⟨rfl,.inl ⟨rfl,rfl⟩⟩
end Go.Proofs.YtegjelaejbacnaaGreat
