/- For VolAll: contracts and facts, part 2. -/
import Derived.Laws.FloatArith
import Derived.Laws.Cover3
import Derived.Scope
import Derived.ScopeJumps
import Derived.WalkKit
import Derived.Maps.AppendAt
import Derived.OrdersHeld
import Derived.Test.YtamnpblijdgdaaaGreatV01
namespace Go.Proofs.YtamnpblijdgdaaaGreat.Fx
open Go
set_option maxRecDepth 20000
set_option linter.unusedVariables false
def fb (n:Nat):Nat:=floatOfInt .f64 (n:Int)
def rungOf (n:Nat):Nat:=if n=0 then 0 else (n.log2+1022)*2 ^ 52+n*2 ^ (52-n.log2)
theorem lp:Ieee.double.leastPlace = -1074:=by decide
theorem log2_mul_pow (n k:Nat) (h:n≠0):(n*2 ^ k).log2=n.log2+k:=by
 have h1:=Nat.log2_self_le h
 have h2:=Nat.lt_log2_self (n:=n)
 have hne:n*2 ^ k≠0:=by
  have:=Nat.two_pow_pos k
  exact Nat.mul_ne_zero h (by omega)
 refine (Nat.log2_eq_iff hne).2 ⟨?_,?_⟩
 ·rw [Nat.pow_add];exact Nat.mul_le_mul_right _ h1
 ·rw [show n.log2+k+1=(n.log2+1)+k by omega,Nat.pow_add]
  exact Nat.mul_lt_mul_of_pos_right h2 (Nat.two_pow_pos k)
theorem cut_exact (way:Ieee.Toward) (m d:Nat) (hd:2 ^ d*m≠0∨d=0):Ieee.Toward.cut way false (m*2 ^ d) d=m:=by
 have hmin:min d ((m*2 ^ d).log2+2)=d:=by
  by_cases h0:d=0
  ·omega
  ·have hm:m≠0:=by rcases hd with h | h
                   ·intro e;rw [e] at h;simp at h
                   ·omega
   rw [log2_mul_pow m d hm];omega
 unfold Ieee.Toward.cut
 simp only [hmin,Nat.one_shiftLeft]
 have p:=Nat.two_pow_pos d
 have a:m*2 ^ d/2 ^ d=m:=Nat.mul_div_cancel _ p
 have b:m*2 ^ d%2 ^ d=0:=Nat.mul_mod_left _ _
 rw [a,b]
 have c2:(2 ^ d==2*0)=false:=by simp
 cases way <;> simp [c2]
theorem nearest_eq (n k:Nat) (h:n<2 ^ 53) (hk:k≤1074):Ieee.double.nearest false (n*2 ^ k) (-(k:Int))=rungOf n:=by
 unfold Ieee.Format.nearest rungOf
 by_cases h0:n=0
 ·subst h0;simp [Ieee.Format.word]
 ·have hne:n*2 ^ k≠0:=Nat.mul_ne_zero h0 (by have:=Nat.two_pow_pos k;omega)
  have hL:n.log2≤52:=by have:=(Nat.log2_lt h0).2 h;omega
  rw [if_neg hne,if_neg h0,log2_mul_pow n k h0]
  have hl:max (-(k:Int)+((n.log2+k:Nat):Int)-(Ieee.double.fractionBits:Nat)) Ieee.double.leastPlace=(n.log2:Int)-52:=by
   rw [lp,show (Ieee.double.fractionBits:Int)=52 from rfl];omega
  simp only [hl]
  have a1:((n.log2:Int)-52-Ieee.double.leastPlace).toNat=n.log2+1022:=by rw [lp];omega
  have a4:Ieee.double.binade=2 ^ 52:=rfl
  rw [a1,a4]
  have hcut:Ieee.Toward.even.cut false ((n*2 ^ k) <<< (-(k:Int)-((n.log2:Int)-52)).toNat) (((n.log2:Int)-52) - -(k:Int)).toNat=n*2 ^ (52-n.log2):=by
   by_cases hc:k+n.log2≤52
   ·have e1:(-(k:Int)-((n.log2:Int)-52)).toNat=52-n.log2-k:=by omega
    have e2:(((n.log2:Int)-52) - -(k:Int)).toNat=0:=by omega
    rw [e1,e2,Nat.shiftLeft_eq]
    have e3:n*2 ^ k*2 ^ (52-n.log2-k)=n*2 ^ (52-n.log2):=by
     rw [Nat.mul_assoc,← Nat.pow_add];congr 2;omega
    rw [e3]
    have:=cut_exact .even (n*2 ^ (52-n.log2)) 0 (Or.inr rfl)
    simpa using this
   ·have e1:(-(k:Int)-((n.log2:Int)-52)).toNat=0:=by omega
    have e2:(((n.log2:Int)-52) - -(k:Int)).toNat=k-(52-n.log2):=by omega
    rw [e1,e2,Nat.shiftLeft_eq,Nat.pow_zero,Nat.mul_one]
    have e3:n*2 ^ k=n*2 ^ (52-n.log2)*2 ^ (k-(52-n.log2)):=by
     rw [Nat.mul_assoc,← Nat.pow_add];congr 2;omega
    rw [e3]
    refine cut_exact .even _ _ (Or.inl (Nat.mul_ne_zero ?_ (Nat.mul_ne_zero h0 ?_)))
    ·have:=Nat.two_pow_pos (k-(52-n.log2));omega
    ·have:=Nat.two_pow_pos (52-n.log2);omega
  rw [hcut]
  have hinf:Ieee.double.infRung=2047*2 ^ 52:=by decide
  have hb:n*2 ^ (52-n.log2)<2 ^ 53:=by
   have h2:=Nat.lt_log2_self (n:=n)
   have:n*2 ^ (52-n.log2)<2 ^ (n.log2+1)*2 ^ (52-n.log2):=Nat.mul_lt_mul_of_pos_right h2 (Nat.two_pow_pos _)
   rwa [← Nat.pow_add,show n.log2+1+(52-n.log2)=53 by omega] at this
  rw [hinf,Nat.min_eq_left (by omega)]
  simp [Ieee.Format.word]
theorem fb_eq (n:Nat) (h:n<2 ^ 53):fb n=rungOf n:=by
 have:=nearest_eq n 0 h (by omega)
 rw [← this]
 show Ieee.double.nearest (decide ((n:Int)<0)) (n:Int).natAbs 0=_
 rw [show decide ((n:Int)<0)=false by simp]
 simp
theorem read_fb (n:Nat) (h:n<2 ^ 53):∃ k:Nat,k≤1074∧Ieee.double.read (fb n)=.number false (n*2 ^ k) (-(k:Int)):=by
 rw [fb_eq n h]
 unfold rungOf
 by_cases h0:n=0
 ·subst h0
  have hr:Ieee.double.read 0=.number false 0 (-1074):=by decide
  obtain ⟨k,hk⟩:∃ k:Nat,k=1074:=⟨_,rfl⟩
  refine ⟨k,by omega,?_⟩
  rw [if_pos rfl,Nat.zero_mul,hr,hk]
  rfl
 ·rw [if_neg h0]
  have hL:n.log2≤52:=by have:=(Nat.log2_lt h0).2 h;omega
  refine ⟨52-n.log2,by omega,?_⟩
  have hb:n*2 ^ (52-n.log2)<2 ^ 53:=by
   have h2:=Nat.lt_log2_self (n:=n)
   have:n*2 ^ (52-n.log2)<2 ^ (n.log2+1)*2 ^ (52-n.log2):=Nat.mul_lt_mul_of_pos_right h2 (Nat.two_pow_pos _)
   rwa [← Nat.pow_add,show n.log2+1+(52-n.log2)=53 by omega] at this
  have ha:2 ^ 52≤n*2 ^ (52-n.log2):=by
   have h2:=Nat.log2_self_le h0
   have:2 ^ n.log2*2 ^ (52-n.log2)≤n*2 ^ (52-n.log2):=Nat.mul_le_mul_right _ h2
   rwa [← Nat.pow_add,show n.log2+(52-n.log2)=52 by omega] at this
  generalize n*2 ^ (52-n.log2)=m at *
  generalize n.log2=L at *
  unfold Ieee.Format.read
  have s:Ieee.double.signWeight=2 ^ 63:=rfl
  have b:Ieee.double.binade=2 ^ 52:=rfl
  have i:Ieee.double.infRung=2047*2 ^ 52:=by decide
  simp only [s,b,i,lp]
  have q1:((L+1022)*2 ^ 52+m)/2 ^ 63=0:=by omega
  have q2:((L+1022)*2 ^ 52+m)%2 ^ 63=(L+1022)*2 ^ 52+m:=by omega
  rw [q1,q2]
  rw [if_neg (by omega),if_pos (by omega)]
  have q3:((L+1022)*2 ^ 52+m)%2 ^ 52=m-2 ^ 52:=by omega
  have q4:((L+1022)*2 ^ 52+m)/2 ^ 52=L+1023:=by omega
  rw [q3,q4]
  have q5:2 ^ 52+(m-2 ^ 52)=m:=by omega
  rw [q5]
  have q6:(-1074:Int)+((L+1023-1:Nat):Int) = -((52-L:Nat):Int):=by omega
  rw [q6];rfl
theorem scale (a k m:Nat) (h:k≤m):a*2 ^ k*2 ^ (m-k)=a*2 ^ m:=by
 rw [Nat.mul_assoc,← Nat.pow_add];congr 2;omega
theorem signed_f (m u:Nat):Ieee.signed false m u=((m*2 ^ u:Nat):Int):=by unfold Ieee.signed;rw [if_neg (by decide),Nat.shiftLeft_eq]
theorem signed_t (m u:Nat):Ieee.signed true m u = -((m*2 ^ u:Nat):Int):=by unfold Ieee.signed;rw [if_pos rfl,Nat.shiftLeft_eq]
theorem minNeg (k j:Nat):min (-(k:Int)) (-(j:Int)) = -((max k j:Nat):Int):=by omega
theorem up1 (k j:Nat):(-(k:Int) - -((max k j:Nat):Int)).toNat=max k j-k:=by omega
theorem up2 (k j:Nat):(-(j:Int) - -((max k j:Nat):Int)).toNat=max k j-j:=by omega
theorem add_fb (a b:Nat) (h:a+b<2 ^ 53):FloatKind.f64.format.add (fb a) (fb b)=some (fb (a+b)):=by
 obtain ⟨k,hk,ha⟩:=read_fb a (by omega)
 obtain ⟨j,hj,hb⟩:=read_fb b (by omega)
 show Ieee.Format.add Ieee.double _ _=_
 unfold Ieee.Format.add
 rw [ha,hb]
 unfold Ieee.Datum.sum
 simp only [minNeg,up1,up2,signed_f,scale a k _ (Nat.le_max_left k j),scale b j _ (Nat.le_max_right k j)]
 have e:((a*2 ^ (max k j):Nat):Int)+((b*2 ^ (max k j):Nat):Int)=(((a+b)*2 ^ (max k j):Nat):Int):=by rw [Nat.add_mul];omega
 rw [e]
 have s:(if (((a+b)*2 ^ (max k j):Nat):Int)=0 then (false&&false) else decide ((((a+b)*2 ^ (max k j):Nat):Int)<0))=false:=by
  split
  ·rfl
  ·simp only [decide_eq_false_iff_not];omega
 rw [s,Int.natAbs_natCast]
 show some (Ieee.double.nearest false _ _)=_
 rw [nearest_eq _ _ h (by omega),fb_eq _ h]
theorem sub_fb (a b:Nat) (h:a<2 ^ 53) (hb':b≤a):FloatKind.f64.format.sub (fb a) (fb b)=some (fb (a-b)):=by
 obtain ⟨k,hk,ha⟩:=read_fb a (by omega)
 obtain ⟨j,hj,hb⟩:=read_fb b (by omega)
 show Ieee.Format.sub Ieee.double _ _=_
 unfold Ieee.Format.sub
 rw [ha,hb]
 unfold Ieee.Datum.opposite Ieee.Datum.sum
 simp only [Bool.not_false,minNeg,up1,up2,signed_f,signed_t,scale a k _ (Nat.le_max_left k j),scale b j _ (Nat.le_max_right k j)]
 have e:((a*2 ^ (max k j):Nat):Int) + -((b*2 ^ (max k j):Nat):Int)=(((a-b)*2 ^ (max k j):Nat):Int):=by
  rw [Nat.sub_mul]
  have:=Nat.mul_le_mul_right (2 ^ (max k j)) hb'
  omega
 rw [e]
 have s:(if (((a-b)*2 ^ (max k j):Nat):Int)=0 then (false&&true) else decide ((((a-b)*2 ^ (max k j):Nat):Int)<0))=false:=by
  split
  ·rfl
  ·simp only [decide_eq_false_iff_not];omega
 rw [s,Int.natAbs_natCast]
 show some (Ieee.double.nearest false _ _)=_
 rw [nearest_eq _ _ (by omega) (by omega),fb_eq _ (by omega)]
theorem order_fb (a b:Nat) (h:a<2 ^ 53) (h':b<2 ^ 53):FloatKind.f64.format.order (fb a) (fb b)=some (compare a b):=by
 obtain ⟨k,hk,ha⟩:=read_fb a (by omega)
 obtain ⟨j,hj,hb⟩:=read_fb b (by omega)
 show Ieee.Format.order Ieee.double _ _=_
 unfold Ieee.Format.order
 rw [ha,hb]
 unfold Ieee.Datum.order
 simp only [minNeg,up1,up2,signed_f,scale a k _ (Nat.le_max_left k j),scale b j _ (Nat.le_max_right k j)]
 congr 1
 have p:=Nat.two_pow_pos (max k j)
 have h1:∀ x y:Nat,compare ((x*2 ^ (max k j):Nat):Int) ((y*2 ^ (max k j):Nat):Int)=compare x y:=by
  intro x y
  rcases Nat.lt_trichotomy x y with g | g | g
  ·have g1:x*2 ^ (max k j)<y*2 ^ (max k j):=Nat.mul_lt_mul_of_pos_right g p
   rw [Nat.compare_eq_lt.2 g]
   show compareOfLessAndEq _ _=_
   unfold compareOfLessAndEq
   rw [if_pos (by omega)]
  ·subst g;simp
  ·have g1:y*2 ^ (max k j)<x*2 ^ (max k j):=Nat.mul_lt_mul_of_pos_right g p
   rw [Nat.compare_eq_gt.2 g]
   show compareOfLessAndEq _ _=_
   unfold compareOfLessAndEq
   rw [if_neg (by omega),if_neg (by omega)]
 exact h1 a b
theorem toInt_fb (n:Nat) (h:n<2 ^ 53):(FloatKind.f64.decode (fb n)).toInt .zero=some (n:Int):=by
 obtain ⟨k,hk,ha⟩:=read_fb n h
 show (Ieee.double.read (fb n)).toInt .zero=_
 rw [ha]
 unfold Ieee.Datum.toInt Ieee.Datum.integral
 have e1:(-(k:Int)).toNat=0:=by omega
 have e2:(- -(k:Int)).toNat=k:=by omega
 simp only [e1,e2,Nat.shiftLeft_eq,Nat.pow_zero,Nat.mul_one]
 have hc:Ieee.Toward.zero.cut false (n*2 ^ k) k=n:=by
  by_cases h0:n=0
  ·subst h0
   unfold Ieee.Toward.cut
   simp
  ·exact cut_exact .zero n k (Or.inl (Nat.mul_ne_zero (by have:=Nat.two_pow_pos k;omega) h0))
 rw [hc,signed_f];simp
theorem int_fb (n:Nat) (h:n<2 ^ 32):floatToIntVal .f64 (fb n) .u32=some (n:Int):=by
 unfold floatToIntVal
 rw [toInt_fb n (by omega)]
 dsimp only
 rw [if_pos ⟨by have:IntKind.u32.min=0:=rfl
                omega,by have:IntKind.u32.max=4294967295:=rfl
                         omega⟩]
theorem ge_fb (a b:Nat) (h:a<2 ^ 53) (h':b<2 ^ 53):(FloatKind.f64.format.order (fb a) (fb b)==some .gt||FloatKind.f64.format.order (fb a) (fb b)==some .eq)=decide (b≤a):=by
 rw [order_fb a b h h']
 rcases Nat.lt_trichotomy a b with g | g | g
 ·rw [Nat.compare_eq_lt.2 g];simp;omega
 ·subst g;simp
 ·rw [Nat.compare_eq_gt.2 g];simp;omega
theorem fb_zero:fb 0=0:=by rw [fb_eq 0 (by omega)];rfl
theorem fb_one:fb 1=4607182418800017408:=by rw [fb_eq 1 (by omega)];decide
theorem fb_mod:fb 65521=4679237951253643264:=by rw [fb_eq 65521 (by omega)];decide
end Go.Proofs.YtamnpblijdgdaaaGreat.Fx
namespace Go.Proofs.YtamnpblijdgdaaaGreat
def jumps (J:Nat→Act→World→Prop) (Q:Exit→Act→World→Prop):Exit→Act→World→Prop
 | .goto l,a,w=>J l a w
 | e,a,w=>Q e a w
theorem jumps_ret (J:Nat→Act→World→Prop) (Q:Exit→Act→World→Prop):jumps J Q .ret=Q .ret:=rfl
theorem jumps_normal (J:Nat→Act→World→Prop) (Q:Exit→Act→World→Prop):jumps J Q .normal=Q .normal:=rfl
theorem wp_scope_multi {P:Program} {a:Act} {w:World} {Q:Exit→Act→World→Prop} {c:Code} (J:Nat→Act→World→Prop) (μ:Nat→Act→World→Nat)
 (hf:∀ l a w,J l a w→∃ rest,findLabel c l=some rest)
 (first:c.wp P (jumps J Q) a w)
 (pass:∀ l rest,findLabel c l=some rest→∀ a w,J l a w→rest.wp P (jumps (fun l' a' w'=>J l' a' w'∧μ l' a' w'<μ l a w) Q) a w):(Code.scope c).wp P Q a w:=by
 intro b k cs
 have hg:∀ l rest,findLabel c l=some rest→gotoIn l (.inScope c :: k)=some (.code rest :: .inScope c :: k):=fun l rest h=>by simp [gotoIn,h]
 have key:∀ n l rest a w,findLabel c l=some rest→μ l a w=n→J l a w→∃ e a' w',Q e a' w'∧Arrives P (lone (b.at a (.code rest :: .inScope c :: k)) cs w) b k cs e a' w':=by
  intro n
  induction n using Nat.strongRecOn with
  | _ n ih =>
    intro l rest a w hl hn hJ
    obtain ⟨e,a₁,w₁,hq,harr⟩:=pass l rest hl a w hJ b (.inScope c :: k) cs
    cases e with
    | normal=>exact ⟨.normal,a₁,w₁,hq,Steps.trans harr (.one step_inScope)⟩
    | exit id=>exact ⟨.exit id,a₁,w₁,hq,fun k' hk=>harr k' (by simp [exitTo,hk])⟩
    | goto l' =>
      obtain ⟨hJ',hlt⟩:=hq
      obtain ⟨rest',hl'⟩:=hf _ _ _ hJ'
      obtain ⟨e₂,a₂,w₂,hq₂,harr₂⟩:=ih _ (by omega) l' rest' a₁ w₁ hl' rfl hJ'
      exact ⟨e₂,a₂,w₂,hq₂,.of_steps (harr _ (hg _ _ hl')) harr₂⟩
    | ret=>exact ⟨_,a₁,w₁,hq,harr⟩
    | panic ch=>exact ⟨_,a₁,w₁,hq,harr⟩
    | outgrown=>exact ⟨_,a₁,w₁,hq,harr⟩
 obtain ⟨e,a₁,w₁,hq,harr⟩:=first b (.inScope c :: k) cs
 cases e with
 | normal=>exact ⟨.normal,a₁,w₁,hq,.head step_scope (Steps.trans harr (.one step_inScope))⟩
 | exit id=>exact ⟨.exit id,a₁,w₁,hq,fun k' hk=>.head step_scope (harr k' (by simp [exitTo,hk]))⟩
 | goto l' =>
   have hJ':J l' a₁ w₁:=hq
   obtain ⟨rest',hl'⟩:=hf _ _ _ hJ'
   obtain ⟨e₂,a₂,w₂,hq₂,harr₂⟩:=key _ l' rest' a₁ w₁ hl' rfl hJ'
   exact ⟨e₂,a₂,w₂,hq₂,.of_steps (.head step_scope (harr _ (hg _ _ hl'))) harr₂⟩
 | ret=>exact ⟨_,a₁,w₁,hq,.of_steps (.one step_scope) harr⟩
 | panic ch=>exact ⟨_,a₁,w₁,hq,.of_steps (.one step_scope) harr⟩
 | outgrown=>exact ⟨_,a₁,w₁,hq,.of_steps (.one step_scope) harr⟩
theorem wp_scope3 {P:Program} {a:Act} {w:World} {Q:Exit→Act→World→Prop} {c r0 r1 r2:Code} (J0 J1 J2:Act→World→Prop) (μ2:Act→World→Nat)
 (h0:findLabel c 0=some r0) (h1:findLabel c 1=some r1) (h2:findLabel c 2=some r2)
 (first:c.wp P (jumps (fun l a w=>match l with | 0=>J0 a w | 1=>J1 a w | 2=>J2 a w | _=>False) Q) a w)
 (pass0:∀ a w,J0 a w→r0.wp P (jumps (fun _ _ _=>False) Q) a w)
 (pass1:∀ a w,J1 a w→r1.wp P (jumps (fun l a' w'=>match l with | 0=>J0 a' w' | _=>False) Q) a w)
 (pass2:∀ a w,J2 a w→r2.wp P (jumps (fun l a' w'=>match l with | 0=>J0 a' w' | 1=>J1 a' w' | 2=>J2 a' w'∧μ2 a' w'<μ2 a w | _=>False) Q) a w):(Code.scope c).wp P Q a w:=by
 refine wp_scope_multi (fun l a w=>match l with | 0=>J0 a w | 1=>J1 a w | 2=>J2 a w | _=>False) (fun l a w=>match l with | 0=>0 | 1=>1 | _=>μ2 a w+2) ?_ first ?_
 ·intro l a w h
  match l,h with
  | 0,_=>exact ⟨_,h0⟩
  | 1,_=>exact ⟨_,h1⟩
  | 2,_=>exact ⟨_,h2⟩
 ·intro l rest hl a w h
  match l,h with
  | 0,h =>
    rw [h0] at hl;injection hl with hl;subst hl
    refine wp_mono (pass0 a w h) ?_
    intro e a' w' he
    cases e <;> first | exact he | exact he.elim
  | 1,h =>
    rw [h1] at hl;injection hl with hl;subst hl
    refine wp_mono (pass1 a w h) ?_
    intro e a' w' he
    cases e with
    | goto l'=>match l',he with
      | 0,he=>exact ⟨he,by show 0<1;omega⟩
    | _=>exact he
  | 2,h =>
    rw [h2] at hl;injection hl with hl;subst hl
    refine wp_mono (pass2 a w h) ?_
    intro e a' w' he
    cases e with
    | goto l'=>match l',he with
      | 0,he=>exact ⟨he,by show 0<μ2 a w+2;omega⟩
      | 1,he=>exact ⟨he,by show 1<μ2 a w+2;omega⟩
      | 2,he=>exact ⟨he.1,by show μ2 a' w'+2<μ2 a w+2;have:=he.2;omega⟩
    | _=>exact he
theorem wp_scope1e {P:Program} {a:Act} {w:World} {Q:Exit→Act→World→Prop} {c r:Code} (J:Act→World→Prop) (μ:Act→World→Nat)
 (h:findLabel c 0=some (.seq .skip r))
 (first:(∀ a w,J a w→r.wp P (Exit.jump 0 J Q) a w)→c.wp P (Exit.jump 0 J Q) a w)
 (pass:∀ a w,J a w→r.wp P (Exit.jump 0 (fun a' w'=>J a' w'∧μ a' w'<μ a w) Q) a w):(Code.scope c).wp P Q a w:=by
 refine wp_scope_jumps 0 J μ h (first fun a w hJ=>?_) (fun a w hJ=>wp_seq (wp_skip (pass a w hJ)))
 refine wp_mono (pass a w hJ) ?_
 intro e a' w' he
 cases e with
 | goto l'=>obtain ⟨rfl,h1,h2⟩:=he;exact ⟨rfl,h1⟩
 | _=>exact he
theorem wp_scope2e {P:Program} {a:Act} {w:World} {Q:Exit→Act→World→Prop} {c r0 r1:Code} (J0 J1:Act→World→Prop) (μ:Act→World→Nat)
 (h0:findLabel c 0=some (.seq .skip r0)) (h1:findLabel c 1=some r1)
 (first:(∀ a w,J0 a w→r0.wp P (jumps (fun l a w=>match l with | 0=>J0 a w | 1=>J1 a w | _=>False) Q) a w)→c.wp P (jumps (fun l a w=>match l with | 0=>J0 a w | 1=>J1 a w | _=>False) Q) a w)
 (pass0:∀ a w,J0 a w→r0.wp P (jumps (fun l a' w'=>match l with | 0=>J0 a' w'∧μ a' w'<μ a w | 1=>J1 a' w' | _=>False) Q) a w)
 (pass1:∀ a w,J1 a w→r1.wp P (jumps (fun _ _ _=>False) Q) a w):(Code.scope c).wp P Q a w:=by
 refine wp_scope_multi (fun l a w=>match l with | 0=>J0 a w | 1=>J1 a w | _=>False) (fun l a w=>match l with | 0=>μ a w+1 | _=>0) ?_ (first fun a w h=>?_) ?_
 ·intro l a w h
  match l,h with
  | 0,_=>exact ⟨_,h0⟩
  | 1,_=>exact ⟨_,h1⟩
 ·refine wp_mono (pass0 a w h) ?_
  intro e a' w' he
  cases e with
  | goto l'=>match l',he with
    | 0,he=>exact he.1
    | 1,he=>exact he
  | _=>exact he
 ·intro l rest hl a w hJ
  match l,hJ with
  | 0,hJ =>
    rw [h0] at hl;injection hl with hl;subst hl
    refine wp_seq (wp_skip (wp_mono (pass0 a w hJ) ?_))
    intro e a' w' he
    cases e with
    | goto l'=>match l',he with
      | 0,he=>exact ⟨he.1,Nat.succ_lt_succ he.2⟩
      | 1,he=>exact ⟨he,Nat.succ_pos _⟩
    | _=>exact he
  | 1,hJ =>
    rw [h1] at hl;injection hl with hl;subst hl
    refine wp_mono (pass1 a w hJ) ?_
    intro e a' w' he
    cases e with
    | goto l'=>exact he.elim
    | _=>exact he
end Go.Proofs.YtamnpblijdgdaaaGreat
namespace Go.Proofs.YtamnpblijdgdaaaGreat
open Go.ChangeShapes Go.WideShapes Go.ChangeAt Go.RowKit
set_option linter.unusedVariables false
section
variable {P:Program} {o:Oper} {a:Act} {w w':World} {K:Act→World→Prop} {Q:Exit→Act→World→Prop}
theorem wp_run {v:Value} (h:(execOp a.eval o).run P w=.ok (.value v) w') (hK:K (a.put o.dst v) w'):o.wp P a w K Q:=by
 simp only [Oper.wp,h,Oper.upon];exact hK
theorem wp_alloc_of (t:TypeId) (ho:o.op=.alloc t) (i:TypeInfo) (z:Value) (hi:P.info? t=some i) (hz:i.zero=some z)
 (hK:K (a.put o.dst (.pointer (some ⟨w.heap.size,0,none⟩))) (w.alloc (.cells z.cells t))):o.wp P a w K Q:=by
 refine wp_run (v:=.pointer (some ⟨w.heap.size,0,none⟩)) ?_ hK
 unfold execOp
 simp [ho,Instr.alloc,zeroValue,typeInfo,hi,hz,newVar,newRow]
theorem wp_make_of (t:TypeId) (x y:Operand) (ho:o.op=.makeSlice t x y) (e:TypeId) (i:TypeInfo) (z:Value) (size:Nat) (ht:P.underlying t=some (.slice e)) (hi:P.info? e=some i) (hz:i.zero=some z) (hs:i.size=size)
 (n:Nat) (k1 k2:IntKind) (hx:a.eval x=.int k1 n) (hy:a.eval y=.int k2 n) (hb:i.bytes*n≤281474976710656) (hn:n≤maxLen)
 (hK:∀ w',w'.ownsRow 0 e size (.slice (some ⟨w.heap.size,0,none⟩) n n) n (madeCells z.cells (n*size)).toList→w.grownBy w' none→w'.heap.size=w.heap.size+1→K (a.put o.dst (.slice (some ⟨w.heap.size,0,none⟩) n n)) w'):o.wp P a w K Q:=by
 subst hs
 have h63':(n:Int)≤9223372036854775807:=by simp [maxLen] at hn;omega
 have hb':(i.bytes:Int)*(n:Int)≤281474976710656:=by
  have h:((i.bytes*n:Nat):Int)≤281474976710656:=by omega
  rwa [Int.natCast_mul] at h
 have hr:=run_make (P:=P) w t e i z ht hi hz k1 k2 n n (by omega) (Int.le_refl _) hb' h63'
 simp only [Int.toNat_natCast] at hr
 refine wp_run (v:=.slice (some ⟨w.heap.size,0,none⟩) n n) (w':=w.alloc (.cells (madeCells z.cells (n*i.size)) e)) ?_ (hK _ (World.ownsRow_lit w _ n (Nat.zero_le _) hn (size_madeCells _ _)) (World.grownBy_alloc w _ none) (by simp))
 unfold execOp
 simp only [ho,hx,hy,Sem.run_bind,hr,Result.andThen_ok,Sem.run_pure]
theorem set_all (vs:List Value):∀ (k off:Nat) (cs:Array Value),off+k+vs.length≤cs.size →
 ((vs.zipIdx k).foldl (fun (cs:Array Value) (x:Value × Nat)=>cs.setIfInBounds (off+x.2) x.1) cs).toList=splice cs.toList (off+k) vs:=by
 induction vs with
 | nil=>intro k off cs _;simp [splice]
 | cons v r ih =>
   intro k off cs h
   simp only [List.zipIdx_cons,List.foldl_cons]
   simp only [List.length_cons] at h
   rw [ih (k+1) off _ (by simp;omega),Array.toList_setIfInBounds]
   unfold splice
   apply List.ext_getElem?
   intro i
   rw [List.getElem?_append,List.getElem?_append,List.getElem?_append,List.getElem?_append]
   simp only [List.length_take,List.length_set,List.getElem?_take,List.getElem?_drop,List.getElem?_set,List.length_cons,List.getElem?_cons,Array.length_toList]
   have e1:min (off+(k+1)) cs.size=off+k+1:=by omega
   have e2:min (off+k) cs.size=off+k:=by omega
   rw [e1,e2]
   by_cases c1:i<off+k
   ·simp [c1,show i<off+k+1 by omega,show ¬ off+k=i by omega,show i<off+(k+1) by omega]
   ·by_cases c2:i=off+k
    ·subst c2;simp [show off+k<cs.size by omega,show off+k<off+(k+1) by omega]
    ·have c3:¬ i<off+k+1:=by omega
     simp only [c1,c3,if_false]
     by_cases c4:i-(off+k+1)<r.length
     ·simp [c4,show i-(off+k)<r.length+1 by omega,show ¬ i-(off+k)=0 by omega,show i-(off+k)-1=i-(off+k+1) by omega]
     ·simp only [c4,if_false,show ¬ i-(off+k)<r.length+1 by omega]
      rw [if_neg (by omega)]
      congr 1;omega
theorem fill_cons {place:Nat→Option (Nat × Nat)} {cells:Array Value} {i off size:Nat} {v:Value} {rest:List (Nat × Value)} (hp:place i=some (off,size)) (hs:v.cells.size=size) (hf:off+size≤cells.size) :
 Instr.fill place cells ((i,v) :: rest)=Instr.fill place (splice cells.toList off v.cells.toList).toArray rest:=by
 rw [Instr.fill,hp]
 dsimp only
 rw [if_neg (by simp [hs];omega)]
 congr 1
 have:=set_all v.cells.toList 0 off cells (by simp [hs];omega)
 rw [Nat.add_zero] at this
 rw [← this,Array.toArray_toList,← Array.foldl_toList]
 congr 1
 simp only [Array.zipIdx,Array.toList_mapIdx]
 apply List.ext_getElem?
 intro j
 simp [List.getElem?_zipIdx]
theorem splice_all {α:Type} (C vs:List α) (h:C.length=vs.length):splice C 0 vs=vs:=by
 unfold splice;simp;omega
theorem wp_one_of (t:TypeId) (x:Operand) (ho:o.op=.buildSlice t 1 #[(0,x)]) (e:TypeId) (i:TypeInfo) (z:Value) (size:Nat) (ht:P.underlying t=some (.slice e)) (hi:P.info? e=some i) (hz:i.zero=some z) (hs:i.size=size) (hp:0<size) (hl:size≤16777216)
 (v:Value) (hx:a.eval x=v) (hv:v.cells.size=size)
 (hK:K (a.put o.dst (.slice (some ⟨w.heap.size,0,none⟩) 1 1)) (w.alloc (.cells v.cells e))):o.wp P a w K Q:=by
 refine wp_run (v:=.slice (some ⟨w.heap.size,0,none⟩) 1 1) ?_ hK
 unfold execOp
 have hf:Instr.fill (fun i=>some (i*size,size)) ((Array.range (1*size)).map (z.cells[·% z.cells.size]!)) [(0,v)]=some v.cells:=by
  rw [fill_cons (off:=0) (size:=size) (by simp) hv (by simp),splice_all _ _ (by simp [hv])]
  simp [Instr.fill]
 simp only [Nat.one_mul] at hf
 simp [ho,Instr.buildSlice,run_underlying ht,sizeOf,typeInfo,zeroValue,hi,hz,hs,hx,show ¬ 16777216<size by omega,show ¬ size=0 by omega,hf,newRow]
theorem append_old (t ty e:TypeId) (i:TypeInfo) (z:Value) (size bytes:Nat) (ht:P.underlying t=some (.slice e)) (hi:P.info? e=some i) (hz:i.zero=some z)
 (hsize:i.size=size) (hby:i.bytes=bytes) (hzs:z.cells.size=size) (hsz:0<size)
 (v:Value) (n:Nat) (xs:List Value) (hown:w.ownsRow 0 e size v n xs) (ad:Addr) (m c:Nat) (news:List Value) (hl:news.length=m*size) (hnews:∀ j u,news[j]?=some u→w.cell? (ad.add j)=some u) (h1:∀ u∈news,u.oneCell'=true)
 (h63:n+m≤maxLen) (hbytes:(n+m)*bytes≤140737488355328) {v':Value}
 (hr:(Builtin.append_ #[t,t] ty #[v,.slice (some ad) m c]).run P w=.ok v' w'):w'.ownsRow 0 e size v n xs:=by
 rcases hown.2 with ⟨rfl,rfl⟩ | ⟨g,cap,cur,rfl,hb,hg,hnc,hcm,hcs,htake⟩
 ·exact ⟨hown.1,Or.inl ⟨rfl,rfl⟩⟩
 ·by_cases hroom:n+m≤cap
  ·obtain ⟨w2,hr2,ho2,hg2⟩:=run_append_fits (P:=P) w 0 t ty e i size ht hi hsize g n cap xs hown ad m c news hl hnews h1 hroom
   rw [hr] at hr2
   injection hr2 with e1 e2
   subst e2
   rcases ho2.2 with ⟨h',_⟩ | ⟨g',cap',cur',h',_,hg',_,_,hcs',ht'⟩
   ·cases h'
   ·injection h' with q1 q2 q3
    injection q1 with q1;injection q1 with q1
    subst q1;subst q3
    refine ⟨hown.1,Or.inr ⟨g,cap,cur',rfl,hb,hg',hnc,hcm,hcs',?_⟩⟩
    have:=congrArg (List.take (n*size)) ht'
    rw [List.take_take,Nat.add_mul,show min (n*size) (n*size+m*size)=n*size by omega,← hown.1,List.take_left] at this
    rw [← hown.1];exact this
  ·have holds:∀ j u,xs[j]?=some u→w.cell? ((⟨g,0,none⟩:Addr).add j)=some u:=hown.cells (g:=g) rfl
   subst hsize;subst hby
   have hr2:=run_append_grow (P:=P) w t ty e i z ht hi hz ⟨g,0,none⟩ n cap xs hown.1 holds ad m c news hl hnews (by omega) (by simp only [maxLen] at h63;omega) (growslice_fits (by omega) hbytes)
   rw [hr] at hr2
   injection hr2 with e1 e2
   subst e2
   refine ⟨hown.1,Or.inr ⟨g,cap,cur,rfl,hb,?_,hnc,hcm,hcs,htake⟩⟩
   exact (Below.heap_alloc w.drew _ g (room_lt hg)).trans hg
theorem wp_push_of (s x:Operand) (t:TypeId) (ho:o.op=.call { callee:=.builtin .append,args:=#[s,x],argTypes:=#[t,t] })
 (e:TypeId) (i:TypeInfo) (z:Value) (size bytes:Nat) (ht:P.underlying t=some (.slice e)) (hi:P.info? e=some i) (hz:i.zero=some z)
 (hsize:i.size=size) (hby:i.bytes=bytes) (hzs:z.cells.size=size) (hsz:0<size)
 (v:Value) (n:Nat) (xs:List Value) (hs:a.eval s=v) (Own:Nat→Prop) (hown:RowAt w Own e size v n xs)
 (ad:Addr) (m c:Nat) (news:List Value) (hx:a.eval x=.slice (some ad) m c) (hl:news.length=m*size) (hnews:∀ j u,news[j]?=some u→w.cell? (ad.add j)=some u) (h1:∀ u∈news,u.oneCell'=true)
 (h63:n+m≤maxLen) (hbytes:(n+m)*bytes≤140737488355328)
 (h:∀ v' w',RowAt w' (fun k=>Own k∨w.heap.size≤k) e size v' (n+m) (xs++news)→w.grownBy w' v.ownBlock→RowAt w' Own e size v n xs→K (a.put o.dst v') w'):o.wp P a w K Q:=by
 obtain ⟨v',w',hr,h2,h3,h4,h5⟩:=run_append_own_at (P:=P) w 0 t o.type e i z size bytes ht hi hz hsize hby hzs hsz v n xs hown.1 ad m c news hl hnews h1 h63 hbytes (Nat.zero_le _)
 unfold Oper.wp execOp
 simp only [ho,resolve,invoke,builtin,Sem.run_bind,Sem.run_pure,Result.andThen_ok,List.map_toArray,List.map_cons,List.map_nil,hs,hx,hr]
 refine h v' w' ⟨h2,fun g hg=>?_⟩ h3 ⟨append_old t o.type e i z size bytes ht hi hz hsize hby hzs hsz v n xs hown.1 ad m c news hl hnews h1 h63 hbytes hr,hown.2⟩
 rcases h5 with h5 | h5
 ·exact Or.inl (hown.2 g (by rw [← h5];exact hg))
 ·rw [h5] at hg;injection hg with hg;exact Or.inr (by omega)
theorem wp_copy_rows (d s:Operand) (dT sT:TypeId) (ho:o.op=.call { callee:=.builtin .copy,args:=#[d,s],argTypes:=#[dT,sT] })
 (e:TypeId) (size:Nat) (ht:P.underlying dT=some (.slice e)) (hi:(P.info? e).map (·.size)=some size)
 (v u:Value) (n:Nat) (ys xs:List Value) (OwnD OwnS:Nat→Prop) (hd:a.eval d=v) (hs:a.eval s=u) (hv:RowAt w OwnD e size v n ys) (hu:RowAt w OwnS e size u n xs) (h1:∀ x∈xs,x.oneCell'=true)
 (h:∀ w',RowAt w' OwnD e size v n xs→w.grownBy w' v.ownBlock→K (a.put o.dst (goInt n)) w'):o.wp P a w K Q:=by
 cases hq:P.info? e with
 | none=>rw [hq] at hi;cases hi
 | some i =>
   have hisz:i.size=size:=by simpa [hq] using hi
   obtain ⟨A,cd,rfl,_,_⟩:=hv.val
   obtain ⟨B,cs,rfl,_,_⟩:=hu.val
   have hxl:=hu.len
   have hyl:=hv.len
   by_cases hn:n=0
   ·subst hn
    have hx0:xs=[]:=List.eq_nil_of_length_eq_zero (by simpa using hxl)
    have hy0:ys=[]:=List.eq_nil_of_length_eq_zero (by simpa using hyl)
    subst hx0;subst hy0
    refine wp_run (w':=w) (v:=goInt 0) ?_ (h w hv (World.grownBy.refl w _))
    unfold execOp
    cases A <;> cases B <;> simp [ho,resolve,invoke,builtin,hd,hs,Builtin.copy_,run_underlying ht,Builtin.lenOf,Builtin.firstCells,sizeOf,typeInfo,hq,loadCells,loadCellsFrom,storeCells]
   ·obtain ⟨g,_,e1,og,hg,_,_,hc,hf⟩:=hv.pos (by omega)
    obtain ⟨g',_,e2,_,_,_,_,hc',_⟩:=hu.pos (by omega)
    injection e1 with e1 _ e1';injection e2 with e2 _ e2'
    subst e1;subst e2;subst e1';subst e2'
    have hl:=run_loadCells_list (P:=P) w ⟨g',0,none⟩ xs (fun j x hj=>by
     have hlt:=(List.getElem?_eq_some_iff.1 hj).1
     rw [Addr.add_mid,Nat.zero_add,hc' j (by omega)];exact hj)
    have hst:=run_storeCells_cells (P:=P) g 0 xs 0 w (fun j hj=>by simp only [Nat.zero_add];rw [hc j (by omega),List.getElem?_eq_getElem (by omega)];rfl) (fun j hj=>hf _) h1
    rw [hxl] at hl
    refine wp_run (w':=w.setCells g 0 xs) (v:=goInt n) ?_ (h _ ?_ ?_)
    ·unfold execOp
     simp only [Nat.add_zero] at hst
     simp [ho,resolve,invoke,builtin,hd,hs,Builtin.copy_,run_underlying ht,Builtin.lenOf,Builtin.firstCells,sizeOf,typeInfo,hq,hisz,hl,hst]
    ·have:=hv.storedMany 0 xs (by omega)
     rwa [splice_all _ _ (by omega)] at this
    ·obtain ⟨h2,h3,h4⟩:=setCells_env g xs 0 w
     exact ⟨h2,h3,h4,by rw [size_setCells];exact Nat.le_refl _,fun k _ hk=>setCells_other g xs 0 w k (fun e=>hk (by rw [e];rfl))⟩
end
end Go.Proofs.YtamnpblijdgdaaaGreat
