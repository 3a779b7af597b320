/- For FileForms: contracts and facts, part 20. -/
import Derived.Laws.OwnMore
import Derived.Test.YtegjelaejbacnaaGreatW01
import Derived.Test.YtegjelaejbacnaaGreatW02
import Derived.Test.YtegjelaejbacnaaGreatW12
import Derived.Test.YtegjelaejbacnaaGreatW19
set_option maxRecDepth 100000
set_option maxHeartbeats 25600000
set_option linter.unusedSimpArgs false
set_option linter.unusedVariables false
open Go.ChangeShapes Go.WideShapes Go.ChangeAt Go.RowKit Go
namespace Go.Proofs.YtegjelaejbacnaaGreat
theorem J3:(Tryz.prog.info? 4).map (fun i=>(i.zero,i.size,i.bytes))=some (some (.bool false),1,1):=Hc
theorem BJ (k:Nat):madeCells (Value.bool false).cells k=((List.replicate k false).map Value.bool).toArray:=by
 rw [List.map_replicate];have:(Value.bool false).cells=#[.bool false]:=rfl;rw [this];unfold madeCells;apply Array.ext_getElem?;intro i;by_cases h:i<k
 ·simp [h,Nat.mod_one]
 ·simp [h]
def jF (w:World) (g:Nat) (S:List Bool):Prop:=w.heap[g]?=some (.cells (S.map Value.bool).toArray 4 (0,0))
theorem jF.below {w w':World} {g:Nat} {S:List Bool} (h:jF w g S) (hb:Below w.heap.size w w'):jF w' g S:=kb hb h
theorem jF.cell {w:World} {g:Nat} {S:List Bool} (h:jF w g S) {i:Nat} {x:Bool} (hi:S[i]?=some x):w.cell? ⟨g,i,none⟩=some (.bool x):=by
 rw [af h,List.getElem?_toArray,List.getElem?_map,hi];rfl
theorem jF.free {w:World} {g:Nat} {S:List Bool} (h:jF w g S) (i:Nat):w.frozen? ⟨g,i,none⟩=false:=az h i
theorem jF.set {w:World} {g:Nat} {S:List Bool} (h:jF w g S) (i:Nat) (x:Bool):jF (w.setCell ⟨g,i,none⟩ (.bool x)) g (S.set i x):=by
 have:=ah (i:=i) h (.bool x);unfold jF;rw [this];simp [List.map_set]
theorem nE {b:List Bk} (hok:dF b) {x:Bk} (hx:x.Ok) {p:Int} (h:p∈namedL b x):0<=p:=by
 unfold namedL at h;split at h
 ·rename_i hc;have hm:=hc.2.may;have hp:=fun i hi=>hm.at_ (i:=i) hi;unfold jp at h;have hd:∀ q∈realL (cM x.bs).dir,0<=q:=fun q hq=>by
   obtain ⟨h1,h2⟩:=i9.1 hq;rw [Ag] at h1;have p0:=hp 0 Ha;have p1:=hp 1 Ha;have p2:=hp 2 Ha;have p3:=hp 3 Ha;simp only [Nd.ps,List.getD_eq_getElem?_getD,List.getElem?_cons_zero,List.getElem?_cons_succ,Option.getD_some] at p0 p1 p2 p3;omega
  rcases List.mem_append.1 h with h | h
  ·split at h
   ·cases h
   ·rename_i hx1;rcases List.mem_cons.1 h with h | h
    ·have p4:=hp 4 Ha;simp only [Nd.ps,List.getD_eq_getElem?_getD,List.getElem?_cons_zero,List.getElem?_cons_succ,Option.getD_some] at p4;omega
    ·unfold mF at h;split at h
     ·obtain ⟨h1,h2⟩:=i9.1 h;unfold tkL at h1;split at h1
      ·rename_i ht;have:=kL (DV ht).2 p h1;omega
      ·cases h1
     ·cases h
  ·exact hd p h
 ·cases h
theorem wX:∀ (l:List Int) (u:List Bool) (i:Nat),(∀ p∈l,0<=p)->i<u.length->(iw u l)[i]?=some (u.getD i false||l.contains (i:Int))
 | [],u,i,_,h=>by
   show u[i]?=_;rw [List.getElem?_eq_getElem h];simp [List.getD,List.getElem?_eq_getElem h]
 | p :: l,u,i,hp,h=>by
   show (iw (u.set p.toNat true) l)[i]?=_;rw [wX l _ i (fun q hq=>hp q (by simp [hq])) (by simp;exact h)];have h0:=hp p Hb
   congr 1
   rw [List.getD,List.getD,List.getElem?_set];by_cases e:p.toNat=i
   ·have e2:(i:Int)=p:=Ha;rw [if_pos e,if_pos Ha];simp [e2]
   ·have e2:¬ (i:Int)=p:=Ha;rw [if_neg e];simp [e2]
def tw (x:Bk) (m:Nat):Bool:=decide (m=0)||decide (it x.k)||decide (x.k=6)
theorem BK {b:List Bk} {m:Nat} {x:Bk} (hx:b[m]?=some x) (hn:∀ p∈namedL b x,0<=p):iw ((jq b m).set m (dz b m m||tw x m)) (namedL b x)=jq b (m+1):=by
 have hm:=(List.getElem?_eq_some_iff.1 hx).1;apply List.ext_getElem?;intro i;by_cases hi:i<b.length
 ·rw [wX _ _ _ hn (by rw [List.length_set,bL];exact hi),kN _ _ hi]
  congr 1
  rw [List.getD,List.getElem?_set,bL];have ht:(b.take (m+1)).any (fun x=>(namedL b x).contains (i:Int))=((b.take m).any (fun x=>(namedL b x).contains (i:Int))||(namedL b x).contains (i:Int)):=by
   rw [au hx,List.any_append];simp
  by_cases e:m=i
  ·subst e;rw [if_pos rfl,if_pos hm];unfold dz tw;rw [ht,kl hx,decide_eq_false (by omega:¬ m<m),decide_eq_true (by omega:m<m+1)];simp only [Bool.false_and,Bool.false_or,Bool.true_and,Option.getD_some];generalize (b.take m).any _=q1;generalize (namedL b x).contains _=q2;generalize (decide (m=0)||decide (it x.k)||decide (x.k=6))=q3;cases q1 <;> cases q2 <;> cases q3 <;> rfl
  ·rw [if_neg e,kN _ _ hi];unfold dz;rw [ht,show decide (i<m+1)=decide (i<m) from by rw [Bool.eq_iff_iff];simp;omega];simp only [Option.getD_some,Bool.or_assoc]
 ·rw [List.getElem?_eq_none (by rw [fq,List.length_set,bL];omega),List.getElem?_eq_none (by rw [bL];omega)]
theorem DX (b:List Bk) (x:Bk):(namedL b x).length<=21:=by
 unfold namedL;split
 ·unfold jp;rw [List.length_append];have h1:=nD (cM x.bs).dir;have h2:(cM x.bs).dir.length=4:=rfl;split
  ·simp only [List.length_nil];omega
  ·have:=Ah b (cM x.bs).x;simp only [List.length_cons];omega
 ·exact Nat.zero_le _
theorem wY (g:Nat) (b:List Bk) (n d:Nat) (w:World) (hn:b.length=n) (h200:n<=200) (hok:dF b) (hy:qs w (some ⟨g,0,none⟩) b) :
 Calls Tryz.prog 46 #[.slice (some ⟨g,0,none⟩) n d] w fun e w'=>∃ p,e=.returned (.slice (some ⟨p,0,none⟩) n n)/\p=w.heap.size/\jF w' p (dW b)/\Below w.heap.size w w':=by
 have HN:=He hn;have HO:=He hok;have HY:Hid (∀ W',Below w.heap.size w W'->qs W' (some ⟨g,0,none⟩) b):=fun W' hb=>hy.keep hb;have HNM:Hid (∀ (i:Nat) (x:Bk) (W':World),b[i]?=some x->Below w.heap.size w W'->Calls Tryz.prog 110 #[.slice (some ⟨g,0,none⟩) n d,.int .i64 i] W' fun e w'=>∃ v,e=.returned v/\OI W' W'.heap.size v (namedL b x) w') :=
  fun i x W' hx hb=>BI g b i n d x W' hn h200 hok (hy.keep hb) hx
 have HIN:=He qW;clear hn hok hy;go_enter Tryz.func46,Tryz.ntmps46;obtain ⟨i0,hi,hz0,hz1,hz2⟩:=info_parts J3;have hmk:=run_make (P:=Tryz.prog) w 108 4 i0 _ Tryz.underlying108 hi hz0 .i64 .i64 (n:Int) (n:Int) Ha Ha (by rw [hz2];omega) Ha;generalize hC:madeCells (Value.bool false).cells ((n:Int).toNat*i0.size)=C0 at hmk;have HC:Hid (C0=((List.replicate n false).map Value.bool).toArray):=by
  rw [<- hC,hz1,Int.toNat_natCast,Nat.mul_one];exact BJ n
 clear hC hi hz0 hz1 hz2;go_upto_region 2 with fail
 have HR0:Hid (jF (w.alloc (Obj.cells C0 4)) w.heap.size (jq b 0)):=by rw [yF,HN.out,HC.out];exact heap_alloc_new w _
 have HB0:=He (aK (w:=w) (Obj.cells C0 4));generalize w.alloc (Obj.cells C0 4)=W0 at *;clear hmk HC;go_wp2_with fail
 go_loopw [4,5,6] (fun i l k wr=>∃ m:Nat,m<=n/\i=.int .i64 m/\Hid (jF wr w.heap.size (jq b m))/\Hid (Below w.heap.size w wr)) (fun i _ _ _=>n-(intOf i).toNat)
 case atStart=>exact ⟨0,Ha,rfl,HR0,HB0⟩
 case round =>
  obtain ⟨m,hm,rfl,HR,HB⟩:=hrel;obtain ⟨w1,rfl⟩:∃ w1,w1=wr:=⟨wr,rfl⟩
  clear HR0 HB0;by_cases hlt:m<n
  ·obtain ⟨x,hx⟩:∃ x,b[m]?=some x:=⟨_,List.getElem?_eq_getElem (by rw [HN.out];exact hlt)⟩
   have hmi:(m:Int)<n:=Ha;have HX:=He hx;have hk:=((HY.out _ HB.out).kind hx)
   have hcu:=HR.out.cell (kN b m (by rw [HN.out];exact hlt));have hfr:=HR.out.free m;have hfz:∀ j,w1.frozen? ⟨w.heap.size,j,none⟩=false:=fun j=>HR.out.free j;have hxo:=HO.out x (List.mem_of_getElem? hx);have HS:=He (BK hx (fun p hp=>nE HO.out hxo hp));have HNN:Hid (∀ p∈namedL b x,0<=p):=fun p hp=>nE HO.out hxo hp;have HLE:=He (DX b x);have HXK:Hid (∃ kk,kk=x.k):=⟨_,rfl⟩
   clear hx hxo;go_upto_region 5 with fail
   go_cut [] (fun wx=>Hid (jF wx w.heap.size ((jq b m).set m (dz b m m||tw x m)))/\Hid (Below w.heap.size w wx))
   case first =>
    have HST:Hid (∀ v,jF (w1.setCell ⟨w.heap.size,m,none⟩ (.bool v)) w.heap.size ((jq b m).set m v)/\Below w.heap.size w (w1.setCell ⟨w.heap.size,m,none⟩ (.bool v))) :=
     fun v=>⟨HR.out.set m v,HB.out.setCell (Nat.le_refl _) _⟩
    have HU:Hid (tw x m=(decide (m=0)||decide (it x.k)||decide (x.k=6))):=rfl;generalize tw x m=iu at *;generalize dz b m m=c at *;generalize x.k=k at *;clear HS HR;cases c with
    | true =>
      go_wp2_with fail
      go_meet
      case rel=>exact ⟨(HST.out true).1,(HST.out true).2⟩
    | false =>
      by_cases h0:m=0
      ·have h0d:decide ((m:Int)=0)=true:=decide_eq_true Ha;have h0b:((m:Int)==0)=true:=beq_iff_eq.2 Ha;have e:iu=true:=by rw [HU.out,decide_eq_true h0];rfl
       subst e;clear h0;go_wp2_with fail
       go_meet
       case rel=>exact ⟨(HST.out true).1,(HST.out true).2⟩
      ·have h0d:decide ((m:Int)=0)=false:=decide_eq_false Ha;have h0b:((m:Int)==0)=false:=beq_eq_false_iff_ne.2 Ha;have HI:=He (HIN.out k w1);by_cases h1:it k
       ·have e:iu=true:=by rw [HU.out,decide_eq_true h1];simp
        subst e;rw [decide_eq_true h1] at HI;go_wp2_with fail
        refine HI.out.mono ?_;rintro e w2 ⟨rfl,rfl⟩;go_wp2_with fail
        go_meet
        case rel=>exact ⟨(HST.out true).1,(HST.out true).2⟩
       ·rw [decide_eq_false h1] at HI;have e:iu=decide (k=6):=by rw [HU.out,decide_eq_false h1,decide_eq_false h0];rfl
        subst e;go_wp2_with fail
        refine HI.out.mono ?_;rintro e w2 ⟨rfl,rfl⟩;by_cases h6:k=6
        ·subst h6;go_wp2_with fail
         go_meet
         case rel=>exact ⟨(HST.out true).1,(HST.out true).2⟩
        ·have h6d:decide (k=6)=false:=decide_eq_false h6;have h6b:(k==6)=false:=beq_eq_false_iff_ne.2 h6;go_wp2_with fail
         go_meet
         case rel =>
          have:=HST.out false;rw [h6d];exact ⟨this.1,this.2⟩
   case rest =>
    obtain ⟨HR2,HB2⟩:=hcut;clear HR HB hcu hfr hfz hk;have HN2:=He (HNM.out m x wc HX.out HB2.out);go_wp2_with fail
    refine HN2.out.mono ?_;rintro e w3 ⟨v,rfl,h3⟩;have HR3:=He (HR2.out.below h3.bel);have HB3:=He (HB2.out.trans (h3.bel.mono HB2.out.size));obtain ⟨A,cap,rfl,hc1,hc2,hnt⟩:=h3.nts;have HNT:Hid (w3.ownsRow (w.heap.size+1) 3 1 (.slice A (namedL b x).length cap) (namedL b x).length (Is (namedL b x))):=h3.own.mono (ai HR2.out);clear h3 hnt HN2 HR2 HB2;generalize hL:namedL b x=L at *;generalize hln:L.length=ln at *;have HLN:=He hln;clear hL hln;generalize hU0:(jq b m).set m (dz b m m||tw x m)=U0 at *;have HUL:Hid (U0.length=n):=by unfold Hid;rw [<- hU0,List.length_set,bL];exact HN.out
    clear hU0;go_wp2_with fail
    go_loopw [6] (fun k wr=>∃ j:Nat,j<=ln/\k=.int .i64 j/\Hid (jF wr w.heap.size (iw U0 (L.take j)))/\Hid (Below w.heap.size w wr)/\Hid (wr.ownsRow (w.heap.size+1) 3 1 (.slice A ln cap) ln (Is L))) (fun k _=>ln-(intOf k).toNat)
    case atStart=>exact ⟨0,Ha,rfl,HR3,HB3,HNT⟩
    case round =>
     obtain ⟨j,hj,rfl,HR4,HB4,HT4⟩:=hrel;obtain ⟨w4,rfl⟩:∃ w4,w4=wr:=⟨wr,rfl⟩
     clear HR3 HB3 HNT;by_cases hjl:j<ln
     ·obtain ⟨p,hp⟩:∃ p,L[j]?=some p:=⟨_,List.getElem?_eq_getElem (by rw [HLN.out];exact hjl)⟩
      have hji:(j:Int)<ln:=Ha;obtain ⟨A',cap',hsv,_,_,hnt⟩:=j3 HT4.out HLN.out;injection hsv with hA _ _
      subst hA;obtain ⟨a,rfl,hc⟩:=hnt j p hp;clear hnt;have h0:=HNN.out p (List.mem_of_getElem? hp);obtain ⟨q,rfl⟩:∃ q:Nat,p=q:=⟨p.toNat,Ha⟩
      have HTK:Hid (iw U0 (L.take (j+1))=(iw U0 (L.take j)).set q true):=by
       unfold Hid;rw [au hp,tp,Int.toNat_natCast]
      have HLB:Hid ((iw U0 (L.take j)).length=n):=by unfold Hid;rw [fq];exact HUL.out
      clear hp h0;by_cases hq:q<n
      ·have hqi:(q:Int)<n:=Ha;have hfr:=HR4.out.free q;have hcq:=HR4.out.cell (List.getElem?_eq_getElem (by rw [HLB.out];exact hq));have HR5:Hid (jF (w4.setCell ⟨w.heap.size,q,none⟩ (.bool true)) w.heap.size (iw U0 (L.take (j+1)))):=by
        unfold Hid;rw [HTK.out];exact HR4.out.set q true
       have HB5:=He (HB4.out.setCell (p:=⟨w.heap.size,q,none⟩) (Nat.le_refl _) (.bool true));have HT5:Hid ((w4.setCell ⟨w.heap.size,q,none⟩ (.bool true)).ownsRow (w.heap.size+1) 3 1 (.slice (some a) ln cap) ln (Is L)):=GT HT4.out _ (fun e=>by have:=(HT4.out.lt _ e).1;simp only at this;omega);go_wp2_with fail
       go_roundw
       case rel=>exact ⟨j+1,Ha,by go_num,HR5,HB5,HT5⟩
       case measure=>simp [intOf];omega
      ·have hqi:¬ (q:Int)<n:=Ha;have HR5:Hid (jF w4 w.heap.size (iw U0 (L.take (j+1)))):=by
        unfold Hid;rw [HTK.out,List.set_eq_of_length_le (by rw [HLB.out];omega)];exact HR4.out
       go_wp2_with fail
       go_roundw
       case rel=>exact ⟨j+1,Ha,by go_num,HR5,HB4,HT4⟩
       case measure=>simp [intOf];omega
     ·obtain rfl:j=ln:=Ha;have hji:¬ (j:Int)<j:=Ha;have HE:Hid (iw U0 (L.take j)=jq b (m+1)):=by
       unfold Hid;rw [List.take_of_length_le (by rw [HLN.out];exact Nat.le_refl _)];exact HS.out
      go_wp2_with fail
      go_roundw
      case rel=>exact ⟨m+1,Ha,by go_num,by unfold Hid;rw [<- HE.out];exact HR4.out,HB4⟩
      case measure=>simp [intOf];omega
  ·obtain rfl:m=n:=Ha;have hmi:¬ (m:Int)<m:=Ha;go_wp2_with fail
   go_ret;refine ⟨_,rfl,rfl,?_,HB.out⟩;have:=HR.out;rw [<- HN.out] at this;unfold dW;exact this
theorem yK (g:Nat) (b:List Bk) (n d:Nat) (w:World) (hn:b.length=n) (h200:n<=200) (hok:dF b) (hy:qs w (some ⟨g,0,none⟩) b) :
 Calls Tryz.prog 54 #[.slice (some ⟨g,0,none⟩) n d] w fun e w'=>e=.returned (.int .i64 (leftL b:Nat))/\Below w.heap.size w w':=by
 have HU:=He (wY g b n d w hn h200 hok hy);have HL:Hid ((dW b).length=n):=by unfold Hid dW;rw [bL];exact hn
 clear hn hok hy;unfold leftL;generalize dW b=u at *;go_enter Tryz.func54,Tryz.ntmps54;go_wp2_with fail
 refine HU.out.mono ?_;rintro e w1 ⟨p,rfl,rfl,hr,hb⟩;have HR:=He hr;have HB:=He hb;clear hr hb HU;go_wp2_with fail
 go_loop [3,5] (fun c i=>∃ j:Nat,j<=n/\i=.int .i64 j/\c=.int .i64 ((u.take j).count false:Nat)) (fun _ i=>n-(intOf i).toNat)
 case atStart=>exact ⟨0,Ha,rfl,rfl⟩
 case round =>
  obtain ⟨j,hj,rfl,rfl⟩:=hrel;by_cases hlt:j<n
  ·obtain ⟨x,hx⟩:∃ x,u[j]?=some x:=⟨_,List.getElem?_eq_getElem (by rw [HL.out];exact hlt)⟩
   have hji:(j:Int)<n:=Ha;have hc:=HR.out.cell hx;have hle:(u.take j).count false<=j:=by have:=List.count_le_length (a:=false) (l:=u.take j);rw [List.length_take] at this;omega
   have HT:=He (au hx);clear hx;generalize hq:(u.take j).count false=q at *;have HQ:=He hq;clear hq;cases x with
   | true =>
     have HE:Hid (((u.take (j+1)).count false:Nat)=q):=by unfold Hid;rw [HT.out,List.count_append,HQ.out];rfl
     go_wp2_with fail
     go_round
     case rel=>exact ⟨j+1,Ha,by go_num,by rw [HE.out]⟩
     case measure=>simp [intOf];omega
   | false =>
     have HE:Hid (((u.take (j+1)).count false:Nat)=q+1):=by unfold Hid;rw [HT.out,List.count_append,HQ.out];rfl
     go_wp2_with fail
     go_round
     case rel=>exact ⟨j+1,Ha,by go_num,by rw [HE.out];go_num⟩
     case measure=>simp [intOf];omega
  ·obtain rfl:j=n:=Ha;have hji:¬ (j:Int)<j:=Ha;have HE:Hid (u.take j=u):=List.take_of_length_le (by rw [HL.out];exact Nat.le_refl _);rw [HE.out];go_wp2_with fail
   go_ret;exact ⟨rfl,HB.out⟩
theorem oX (g:Nat) (b:List Bk) (n d:Nat) (A:Option Addr) (but:List Int) (m c:Nat) (w:World) (hn:b.length=n) (h200:n<=200) (hok:dF b) (hy:qs w (some ⟨g,0,none⟩) b) (hm:but.length=m) (h63:m<=1000000) (hbt:jf w A but) (hin:∀ t∈but,0<=t/\t<(n:Int)) :
 Calls Tryz.prog 17 #[.slice (some ⟨g,0,none⟩) n d,.slice A m c] w fun e w'=>e=.returned (.int .i64 (bB b but))/\Below w.heap.size w w':=by
 have HU:=He (wY g b n d w hn h200 hok hy);have HL:Hid ((dW b).length=n):=by unfold Hid dW;rw [bL];exact hn
 have HM:=He hm;have HI:=He hin;have HBT:Hid (∀ W',Below w.heap.size w W'->jf W' A but):=fun W' hb=>hbt.keep hb;clear hn hok hy hm hbt hin;unfold bB;generalize dW b=u at *;go_enter Tryz.func17,Tryz.ntmps17;go_wp2_with fail
 refine HU.out.mono ?_;rintro e w1 ⟨p,rfl,hp,hr,hb⟩;have HR:=He hr;have HB:=He hb;have HPW:=He hp;clear hr hb HU hp;go_wp2_with fail
 go_loopw [6] (fun i wr=>∃ j:Nat,j<=m/\i=.int .i64 j/\Hid (jF wr p (iw u (but.take j)))/\Hid (Below w.heap.size w wr)) (fun i _=>m-(intOf i).toNat)
 case atStart=>exact ⟨0,Ha,rfl,HR,HB⟩
 case round =>
  obtain ⟨j,hj,rfl,HR4,HB4⟩:=hrel;obtain ⟨w4,rfl⟩:∃ w4,w4=wr:=⟨wr,rfl⟩
  clear HR HB;by_cases hlt:j<m
  ·obtain ⟨x,hx⟩:∃ x,but[j]?=some x:=⟨_,List.getElem?_eq_getElem (by rw [HM.out];exact hlt)⟩
   have hji:(j:Int)<m:=Ha;obtain ⟨a,rfl,hc⟩:=(HBT.out _ HB4.out) j x hx;have hix:=HI.out x (List.mem_of_getElem? hx);obtain ⟨q,rfl⟩:∃ q:Nat,x=q:=⟨x.toNat,by have:=hix.1;omega⟩
   have HTK:Hid (iw u (but.take (j+1))=(iw u (but.take j)).set q true):=by
    unfold Hid;rw [au hx,tp,Int.toNat_natCast]
   have HLB:Hid ((iw u (but.take j)).length=n):=by unfold Hid;rw [fq];exact HL.out
   have hqn:q<n:=by have:=hix.2;omega
   have hqi:(q:Int)<n:=Ha;clear hx hix;have hfr:=HR4.out.free q;have hcq:=HR4.out.cell (List.getElem?_eq_getElem (by rw [HLB.out];exact hqn));have HR5:Hid (jF (w4.setCell ⟨p,q,none⟩ (.bool true)) p (iw u (but.take (j+1)))):=by
    unfold Hid;rw [HTK.out];exact HR4.out.set q true
   have HB5:=He (HB4.out.setCell (p:=⟨p,q,none⟩) (by rw [HPW.out];exact Nat.le_refl _) (.bool true));go_wp2_with fail
   go_roundw
   case rel=>exact ⟨j+1,Ha,by go_num,HR5,HB5⟩
   case measure=>simp [intOf];omega
  ·obtain rfl:j=m:=Ha;have hji:¬ (j:Int)<j:=Ha;have HE:Hid (but.take j=but):=List.take_of_length_le (by rw [HM.out];exact Nat.le_refl _);rw [HE.out] at HR4;have HUL:Hid ((iw u but).length=n):=by unfold Hid;rw [fq];exact HL.out
   obtain ⟨v,hv⟩:∃ v,v=iw u but:=⟨_,rfl⟩
   rw [<- hv] at HR4 HUL;have HV:=He hv;clear HE hv;go_wp2_with fail
   go_loop [7] (fun i=>∃ k:Nat,k<=n/\i=.int .i64 k/\Hid (∀ j,j<k->v[j]?=some true)) (fun i=>n-(intOf i).toNat)
   case atStart=>exact ⟨0,Ha,rfl,fun j hj=>absurd hj Ha⟩
   case round =>
    obtain ⟨k,hk,rfl,HK⟩:=hrel;by_cases hkn:k<n
    ·obtain ⟨x,hx⟩:∃ x,v[k]?=some x:=⟨_,List.getElem?_eq_getElem (by rw [HUL.out];exact hkn)⟩
     have hki:(k:Int)<n:=Ha;have hc:=HR4.out.cell hx;have HX:=He hx;clear hx;cases x with
     | true =>
       go_wp2_with fail
       go_round
       case rel=>exact ⟨k+1,Ha,by go_num,fun i hi=>by
        by_cases e:i=k
        ·rw [e];exact HX.out
        ·exact HK.out i Ha⟩
       case measure=>simp [intOf];omega
     | false =>
       have HF:=He (zZ HK.out HX.out);go_wp2_with fail
       go_ret;exact ⟨kX (by rw [<- HV.out];exact HF.out.symm),HB4.out⟩
    ·obtain rfl:k=n:=Ha;have hki:¬ (k:Int)<k:=Ha;have HF:=He (tr (u:=v) (by rw [HUL.out];exact HK.out));go_wp2_with fail
     go_ret;exact ⟨kX (by rw [<- HV.out];exact HF.out.symm),HB4.out⟩
def BL (x:Bk):List Value:=blkL x.k x.bs
theorem fY:∀ l:List Bk,bksL l=rowL BL l
 | []=>rfl
 | x :: l=>by show blkL x.k x.bs++bksL l=blkL x.k x.bs++rowL BL l;rw [fY l]
theorem iQ {l:List Bk} (h:dF l):kF BL 57 l:=fun x hx=>aZ (h x hx).len
structure cj (w:World) (B g n cap:Nat) (l:List Bk):Prop where
 own:w.ownsRow B 37 57 (.slice (some ⟨g,0,none⟩) n cap) n (bksL l)
 len:l.length=n
 ok:dF l
section
variable {w w':World} {B g n cap:Nat} {l:List Bk}
theorem cj.below (h:cj w B g n cap l) (hb:Below w.heap.size w w'):cj w' B g n cap l:=⟨hU h.own hb,h.len,h.ok⟩
theorem cj.grown (h:cj w B g n cap l) {p:Option Nat} (hg:w.grownBy w' p) (hp:p≠some g):cj w' B g n cap l:=⟨h.own.kept hg (.inr (fun e=>hp e.symm)),h.len,h.ok⟩
theorem cj.lt (h:cj w B g n cap l):B<=g/\g<w.heap.size:=h.own.lt g rfl
theorem cj.bks (h:cj w B g n cap l):qs w (some ⟨g,0,none⟩) l:=fun i x hi=>⟨g,rfl,fun j v hj=>by
 have h5:=h.own.cells (g:=g) rfl _ _ (po h.ok hi hj);rw [fP] at h5;exact h5⟩
theorem cj.at_ (h:cj w B g n cap l) {i:Nat} {x:Bk} (hi:l[i]?=some x):w.rangeAt g (i*57) (blkL x.k x.bs):=h.bks.at_ hi
theorem cj.free (h:cj w B g n cap l) (k:Nat):w.frozen? ⟨g,k,none⟩=false:=qh h.own k
theorem cj.there (h:cj w B g n cap l) {i:Nat} (hi:i<n):w.there g (i*57) 57:=sF h.own (by have:(i+1)*57<=n*57:=Nat.mul_le_mul_right _ hi;omega)
theorem cj.setB (h:cj w B g n cap l) {i:Nat} {x y:Bk} (hi:l[i]?=some x) (hy:y.Ok):cj (w.setCells g (i*57) (blkL y.k y.bs)) B g n cap (l.set i y):=by
 have hlt:=(List.getElem?_eq_some_iff.1 hi).1;have hl:=h.len;have e:(blkL y.k y.bs).length=57:=aZ hy.len;have h1:=lT h.own (o:=i*57) (blkL y.k y.bs) (by have:(i+1)*57<=n*57:=Nat.mul_le_mul_right _ Ha;omega);have h2:splice (bksL l) (i*57) (blkL y.k y.bs)=bksL (l.set i y):=by
  rw [fY,fY];have:=ik (enc:=BL) (sz:=57) (iQ h.ok) (k:=i) (x:=x) (y:=y) (j:=0) (cs:=blkL y.k y.bs) hi Ha (by
   have e1:(BL x).length=(blkL y.k y.bs).length:=by rw [e];exact aZ (h.ok x (List.mem_of_getElem? hi)).len
   exact (ka (BL x) (blkL y.k y.bs) e1).symm)
  rwa [Nat.add_zero] at this
 rw [h2] at h1;exact ⟨h1,by rw [List.length_set];exact hl,Ab h.ok hy i⟩
theorem DY (k:Int) (bs:List Int) (j:Nat) (v:Int):(blkL k bs).set (1+j) (.int .u8 v)=blkL k (bs.set j v):=by
 unfold blkL;rw [Nat.add_comm,List.set_cons_succ,<- Cy]
theorem cj.byte (h:cj w B g n cap l) {i:Nat} {x:Bk} (hi:l[i]?=some x) {j:Nat} (hj:j<56) {v:Int} (hv:0<=v/\v<256):cj (w.setCell ⟨g,i*57+(1+j),none⟩ (.int .u8 v)) B g n cap (l.set i (nz x j v)):=by
 have hlt:=(List.getElem?_eq_some_iff.1 hi).1;have hl:=h.len;have hx:=h.ok x (List.mem_of_getElem? hi);have h1:=ml h.own (k:=i*57+(1+j)) (by have:(i+1)*57<=n*57:=Nat.mul_le_mul_right _ Ha;omega) (.int .u8 v);have h2:(bksL l).set (i*57+(1+j)) (.int .u8 v)=bksL (l.set i (nz x j v)):=by
  rw [fY,fY];exact m8 (iQ h.ok) hi Ha (DY x.k x.bs j v).symm
 rw [h2] at h1;exact ⟨h1,by rw [List.length_set];exact hl,Ab h.ok (Y:=nz x j v) ⟨hx.k,by show (x.bs.set j v).length=56;rw [List.length_set];exact hx.len,CE hx.b j hv⟩ i⟩
theorem cj.mono {C:Nat} (h:cj w B g n cap l) (hc:C<=B):cj w C g n cap l:=⟨h.own.mono hc,h.len,h.ok⟩
end
theorem cE (g:Nat):∀ (cs:List Value) (o:Nat) (w:World),w.grownBy (w.setCells g o cs) (some g)
 | [],o,w=>World.grownBy.refl _ _
 | v :: r,o,w=>by
   have h1:=cE g r (o+1) (w.setCell ⟨g,o,none⟩ v);have h2:w.grownBy (w.setCell ⟨g,o,none⟩ v) (some g):=⟨rfl,rfl,rfl,Hb,fun k hk hne=>heap_setCell_other _ _ _ _ (fun e=>hne (by rw [e]))⟩
   exact aW h2 h1
def Km (n:Nat) (ops:Array Oper):Bool :=
 ((List.range ops.size).all fun i=>((ops[i]?).map fun o=>o.after.all fun e=>decide (e.on<i)||!Region.binds .any e).getD false) &&
 ((List.range ops.size).all fun i=>(List.range ops.size).all fun j=>i==j||(((ops[i]?).bind (·.dst)).isNone||((ops[i]?).bind (·.dst)) != ((ops[j]?).bind (·.dst)))) &&
 ((List.range ops.size).all fun i=>(((ops[i]?).bind (·.dst)).map fun d=>decide (d<n)).getD true)
section
variable {P:Program} {ops:Array Oper} {T0 T:Array Value} {D:List Deferred} {V:Nat->Value->World->Prop} {J:(Nat->Bool)->World->Prop} {S:World->World->Prop} {Q:Exit->Act->World->Prop}
theorem BM {n:Nat} (h:Km n ops=true):(∀ (i:Nat) (o:Oper),ops[i]?=some o->∀ e∈o.after,Region.binds .any e=true->e.on<i) /\
 (∀ (i j:Nat) (o o':Oper),ops[i]?=some o->ops[j]?=some o'->i≠j->∀ d,o.dst=some d->o'.dst≠some d)/\(∀ (i:Nat) (o:Oper) (d:Nat),ops[i]?=some o->o.dst=some d->d<n):=by
 unfold Km at h;simp only [Bool.and_eq_true,decide_eq_true_eq,List.all_eq_true,List.any_eq_true,List.mem_range] at h;obtain ⟨⟨h1,h3⟩,h4⟩:=h;have lt:∀ {i:Nat} {o:Oper},ops[i]?=some o->i<ops.size:=fun {i o} ho=>(Array.getElem?_eq_some_iff.1 ho).1;refine ⟨fun i o ho e he hb=>?_,fun i j o o' ho ho' hij d hd=>?_,fun i o d ho hd=>?_⟩
 ·have:=h1 i (lt ho);rw [ho] at this;simp only [Option.map_some,Option.getD_some,Array.all_eq_true',Bool.or_eq_true,decide_eq_true_eq] at this;rcases this e he with h | h
  ·exact h
  ·rw [hb] at h;cases h
 ·have:=h3 i (lt ho) j (lt ho');rw [ho,ho'] at this;simp only [Option.bind_some,Bool.or_eq_true,beq_iff_eq,bne_iff_ne] at this;rcases this with h | h | h
  ·exact absurd h hij
  ·rw [hd] at h;cases h
  ·rw [hd] at h;exact fun e=>h e.symm
 ·have:=h4 i (lt ho);rw [ho] at this;simp only [Option.bind_some,hd,Option.map_some,Option.getD_some,decide_eq_true_eq] at this;exact this
def yL (ops:Array Oper) (L:Nat->Bool):Prop:=∀ j oj,ops[j]?=some oj->L j=true->∀ e∈oj.after,Region.binds .any e=true->L e.on=true
def tz (step:Nat->Oper->Prop):Nat->List Oper->Prop
 | _,[]=>True
 | i,o :: rest=>step i o/\tz step (i+1) rest
theorem tz.at_ {step:Nat->Oper->Prop}:∀ {l:List Oper} {i:Nat},tz step i l->∀ j o,l[j]?=some o->step (i+j) o
 | [],_,_,j,o,h=>by simp at h
 | x :: rest,i,h,0,o,ho=>by simp at ho;subst ho;exact h.1
 | x :: rest,i,h,j+1,o,ho=>by
   have:=tz.at_ h.2 j o (by simpa using ho)
   rwa [show i+1+j=i+(j+1) by omega] at this
end
theorem fZ {w W W':World} {r:Option Nat} (h:w.grownBy W r) (hb:Below W.heap.size W W'):w.grownBy W' r :=
 ⟨hb.os.trans h.os,hb.tape.trans h.tape,hb.output.trans h.output,Nat.le_trans h.size hb.size,fun k hk hr=>by rw [hb.block k (Nat.lt_of_lt_of_le hk h.size)];exact h.block k hk hr⟩
theorem r6 {w W W':World} {r:Option Nat} {p:Nat} (h:w.grownBy W r) (hg:W.grownBy W' (some p)) (hp:w.heap.size<=p):w.grownBy W' r :=
 ⟨hg.os.trans h.os,hg.tape.trans h.tape,hg.output.trans h.output,Nat.le_trans h.size hg.size,fun k hk hr=>by rw [hg.block k (Nat.lt_of_lt_of_le hk h.size) (fun e=>by have:=Option.some.inj e;omega)];exact h.block k hk hr⟩
theorem bo {W W':World} {r:Option Nat} (hg:W.grownBy W' r) {k:Nat} {o:Obj} (h:W.heap[k]?=some o) (hk:r≠some k):W'.heap[k]?=some o:=by
 rw [hg.block k (ai h) (fun e=>hk e.symm)];exact h
theorem br (W:World) (g k:Nat) (v:Value):W.grownBy (W.setCell ⟨g,k,none⟩ v) (some g):=⟨rfl,rfl,rfl,Hb,fun j hj hne=>heap_setCell_other _ _ _ _ (fun e=>hne (by rw [e]))⟩
section
variable {w W W':World} {B g n cap p:Nat} {b:List Bk} {nd:Nd}
end
section
variable {was:List Bk} {d:Int->Int} {i:Nat} {s s':List Bk × List Int}
end
section
variable {P:Program} {ops:Array Oper} {T0 T:Array Value} {D:List Deferred} {V:Nat->Value->World->Prop} {sl:Nat} {J:(Nat->Bool)->Value->World->Prop} {S:World->World->Prop} {Q:Exit->Act->World->Prop}
def fw (P:Program) (ops:Array Oper) (T0:Array Value) (D:List Deferred) (V:Nat->Value->World->Prop) (sl:Nat) (J:(Nat->Bool)->Value->World->Prop) (S:World->World->Prop) (Q:Exit->Act->World->Prop) (i:Nat) (o:Oper):Prop :=
 ∀ T w (L:Nat->Bool),gq ops T0 T->L i=false->yL ops L->J L (T.getD sl undef) w->(∀ e∈o.after,Region.binds .any e=true->L e.on=true)->(∀ e∈o.after,Region.binds .any e=true->∀ o',ops[e.on]?=some o'->V e.on (co o' T) w) ->
  if Region.wanted o (yielded ops T) then o.wp P ⟨T,D⟩ w (fun a' w'=>∃ v,a'=(⟨T,D⟩:Act).put o.dst v/\V i (match o.dst with | some _=>v | none=>undef) w'/\J (fun j=>if i=j then true else L j) (if o.dst=some sl then v else T.getD sl undef) w'/\S w w') Q else V i undef w/\J (fun j=>if i=j then true else L j) (if o.dst=some sl then undef else T.getD sl undef) w
def GH (ops:Array Oper) (T0:Array Value) (D:List Deferred) (V:Nat->Value->World->Prop) (sl:Nat) (J:(Nat->Bool)->Value->World->Prop) (Q:Exit->Act->World->Prop):Prop :=
 ∀ T w (L:Nat->Bool),gq ops T0 T->(∀ j,j<ops.size->L j=true)->J L (T.getD sl undef) w->(∀ j o',ops[j]?=some o'->V j (co o' T) w)->Q .normal ⟨T,D⟩ w
structure GI (ops:Array Oper) (T0:Array Value) (D:List Deferred) (V:Nat->Value->World->Prop) (sl:Nat) (J:(Nat->Bool)->Value->World->Prop) (listed:Array Bool) (a:Act) (w:World):Prop where
 size:listed.size=ops.size
 down:yL ops (fun i=>listed.getD i false)
 defers:a.defers=D
 frame:gq ops T0 a.tmps
 vals:∀ i o,ops[i]?=some o->listed.getD i false=true->V i (co o a.tmps) w
 world:J (fun i=>listed.getD i false) (a.tmps.getD sl undef) w
theorem yM {n:Nat} {Si:Nat->World->World->Prop} (hB:Km n ops=true) (hn:T0.size=n) (stab:∀ i j v w w',i≠j->sh ops j i->V j v w->Si i w w'->V j v w')
 (steps:∀ i o,ops[i]?=some o->fw P ops T0 D V sl J (Si i) Q i o) (hfin:GH ops T0 D V sl J Q) :
 ∀ (fuel:Nat) (listed:Array Bool) (a:Act) (w:World),GI ops T0 D V sl J listed a w->(List.range ops.size).countP (fun i=>!listed.getD i false)<=fuel->wpAny P .any ops Q fuel listed a w:=by
 obtain ⟨hup,hdst,hfr⟩:=BM hB;have fin:∀ {listed:Array Bool} {a:Act} {w:World},GI ops T0 D V sl J listed a w->(∀ i,i<ops.size->listed.getD i false=true)->Q .normal a w:=fun {listed a w} hI hall=>by
  obtain ⟨T,D'⟩:=a;have hD:=hI.defers;dsimp only at hD;subst hD;exact hfin T w _ hI.frame hall hI.world (fun j o' ho=>hI.vals j o' ho (hall j (Array.getElem?_eq_some_iff.1 ho).1))
 intro fuel
 induction fuel with
 | zero =>
   intro listed a w hI hc;have hall:∀ i,i<ops.size->listed.getD i false=true:=fun i hi=>by
    have h0:(List.range ops.size).countP (fun i=>!listed.getD i false)=0:=Ha;rw [List.countP_eq_zero] at h0;have:=h0 i (List.mem_range.2 hi);simpa using this
   exact mc hI.size hall (fin hI hall)
 | succ fuel ih =>
   intro listed a w hI hc;refine ⟨fun hr=>?_,fun i hi=>?_⟩
   ·refine fin hI fun i hi=>?_;cases hli:listed.getD i false with
    | true=>rfl
    | false =>
      exfalso;have hmin:∃ i,(i<ops.size/\listed.getD i false=false)/\∀ j,j<i->¬ (j<ops.size/\listed.getD j false=false):=by
       have hi:i<ops.size/\listed.getD i false=false:=⟨hi,hli⟩
       clear hli
       induction i using Nat.strongRecOn with
       | _ i ih =>
         by_cases hm:∃ j,j<i/\(j<ops.size/\listed.getD j false=false)
         ·obtain ⟨j,h1,h2⟩:=hm;exact ih j h1 h2.1 h2
         ·exact ⟨i,hi,fun j hj h=>hm ⟨j,hj,h⟩⟩
      obtain ⟨i,⟨h1,h2⟩,h3⟩:=hmin;have hm:i∈Region.ready .any ops listed:=gS.2 ⟨h1,by rw [j1 (by rw [hI.size];exact h1)];exact h2,_,Array.getElem?_eq_getElem h1,fun e he hb=>by
       have h4:=hup i _ (Array.getElem?_eq_getElem h1) e he hb;cases h5:listed.getD e.on false with
       | true=>rfl
       | false=>exact absurd ⟨Ha,h5⟩ (h3 e.on h4)⟩
      rw [hr] at hm;cases hm
   ·obtain ⟨T,D'⟩:=a;have hD:=hI.defers;dsimp only at hD;subst hD;obtain ⟨h1,h2,o,ho,h3⟩:=gS.1 hi;rw [j1 (by rw [hI.size];exact h1)] at h2;have hsz:i<listed.size:=by rw [hI.size];exact h1
    unfold wpOp;rw [ho];dsimp only;have hst:=steps i o ho T w (fun j=>listed.getD j false) hI.frame h2 hI.down hI.world (fun e he hb=>h3 e he hb) (fun e he hb o' ho'=>hI.vals _ _ ho' (h3 e he hb));have next:∀ v w',V i (match o.dst with | some _=>v | none=>undef) w'->J (fun j=>if i=j then true else listed.getD j false) (if o.dst=some sl then v else T.getD sl undef) w'->(∀ j v,i≠j->sh ops j i->V j v w->V j v w')->wpAny P .any ops Q fuel (listed.setIfInBounds i true) ((⟨T,D'⟩:Act).put o.dst v) w':=by
     intro v w' hV hJ hS;refine ih _ _ _ ⟨by simpa using hI.size,fun j oj hoj hj e he hb=>?_,ma,nO (i:=i) ho hI.frame,fun j oj hoj hj=>?_,?_⟩ ?_
     ·simp only at hj ⊢;rw [bz hsz] at hj ⊢;by_cases e1:i=e.on
      ·rw [if_pos e1]
      ·rw [if_neg e1];by_cases e2:i=j
       ·subst e2;rw [ho] at hoj;cases hoj;exact h3 e he hb
       ·rw [if_neg e2] at hj;exact hI.down j oj hoj hj e he hb
     ·rw [bz hsz] at hj;by_cases e2:i=j
      ·subst e2;rw [ho] at hoj;cases hoj;rw [iz (fun d hd=>by rw [hI.frame.1,hn];exact hfr i o d ho hd)];exact hV
      ·rw [if_neg e2] at hj;rw [gR (fun d hd=>hdst i j o oj ho hoj e2 d hd)];exact hS j _ e2 (fun o' ho' e he hb hei=>by
        rw [hoj] at ho';injection ho' with ho';subst ho'
        have:=hI.down j oj hoj hj e he hb;simp only at this;rw [hei,h2] at this;cases this) (hI.vals j oj hoj hj)
     ·have e9:(fun j=>(listed.setIfInBounds i true).getD j false)=(fun j=>if i=j then true else listed.getD j false):=funext fun j=>bz hsz;rw [e9];have e10:(((⟨T,D'⟩:Act).put o.dst v).tmps).getD sl undef=if o.dst=some sl then v else T.getD sl undef:=by
       cases hd:o.dst with
       | none=>rw [if_neg Hb];rfl
       | some d =>
         have hdl:d<T.size:=by rw [hI.frame.1,hn];exact hfr i o d ho hd
         unfold Act.put;by_cases e:d=sl
         ·subst e;rw [if_pos rfl];simp [Array.getD_eq_getD_getElem?,hdl]
         ·rw [if_neg (fun h=>e (Option.some.inj h))];simp [Array.getD_eq_getD_getElem?,Array.getElem?_setIfInBounds,e]
      rw [e10];exact hJ
     ·have:(List.range ops.size).countP (fun j=>!(listed.setIfInBounds i true).getD j false)<(List.range ops.size).countP (fun j=>!listed.getD j false):=by
       have key:∀ (l:List Nat),i∈l->l.Nodup->l.countP (fun j=>!(listed.setIfInBounds i true).getD j false)<l.countP (fun j=>!listed.getD j false):=by
        have le:∀ (l:List Nat),l.countP (fun j=>!(listed.setIfInBounds i true).getD j false)<=l.countP (fun j=>!listed.getD j false):=fun l =>
         List.countP_mono_left fun j _ hj=>by
          rw [bz hsz] at hj;by_cases e2:i=j
          ·rw [if_pos e2] at hj;cases hj
          ·rw [if_neg e2] at hj;exact hj
        intro l
        induction l with
        | nil=>intro h;cases h
        | cons x l ihl =>
          intro hm hnd;rw [List.countP_cons,List.countP_cons];by_cases e:x=i
          ·subst e;have e1:(!(listed.setIfInBounds x true).getD x false)=false:=by rw [bz hsz,if_pos rfl];rfl
           have e2:(!listed.getD x false)=true:=by rw [h2];rfl
           rw [e1,e2];have:=le l;simp only [Bool.false_eq_true,if_false,if_true];omega
          ·have hm':i∈l:=by
            rcases List.mem_cons.1 hm with h | h
            ·exact absurd h.symm e
            ·exact h
           have:=ihl hm' (List.nodup_cons.1 hnd).2;have e1:(listed.setIfInBounds i true).getD x false=listed.getD x false:=by rw [bz hsz,if_neg (fun h=>e h.symm)]
           rw [e1];omega
       exact key _ (List.mem_range.2 h1) List.nodup_range
      omega
    by_cases hw:Region.wanted o (yielded ops T)=true
    ·rw [if_pos hw] at hst ⊢;refine Or.inl (Oper.wp_mono (fun a' w'=>?_) hst);rintro ⟨v,rfl,hV,hJ,hS⟩;exact next v w' hV hJ (fun j v hij hd h=>stab i j v w w' hij hd h hS)
    ·rw [if_neg hw] at hst ⊢;refine next undef w ?_ hst.2 (fun j v _ _ h=>h)
     cases o.dst <;> exact hst.1
theorem fw.of {i:Nat} {o:Oper} (hg:o.guard=none) (h:∀ T w (L:Nat->Bool),gq ops T0 T->L i=false->yL ops L->J L (T.getD sl undef) w->(∀ e∈o.after,Region.binds .any e=true->L e.on=true)->(∀ e∈o.after,Region.binds .any e=true->∀ o',ops[e.on]?=some o'->V e.on (co o' T) w) ->
 o.wp P ⟨T,D⟩ w (fun a' w'=>∃ v,a'=(⟨T,D⟩:Act).put o.dst v/\V i (match o.dst with | some _=>v | none=>undef) w'/\J (fun j=>if i=j then true else L j) (if o.dst=some sl then v else T.getD sl undef) w'/\S w w') Q):fw P ops T0 D V sl J S Q i o:=by
 intro T w L h1 h2 h3 h4 h5 h6;rw [if_pos (by unfold Region.wanted;rw [hg])];exact h T w L h1 h2 h3 h4 h5 h6
theorem r7 {id:Nat} {w:World} {l:List Oper} (V:Nat->Value->World->Prop) (sl:Nat) (J:(Nat->Bool)->Value->World->Prop) (Si:Nat->World->World->Prop) (hm:P.follows .mixedOrders=true) (hB:Km T0.size l.toArray=true) (stab:∀ i j v w w',i≠j->jv l.toArray j i=true->V j v w->Si i w w'->V j v w') (hJ:J (fun _=>false) (T0.getD sl undef) w.drew)
 (h:tz (fun i o=>fw P l.toArray T0 D V sl J (Si i) Q i o) 0 l) (hfin:GH l.toArray T0 D V sl J Q):(Code.region id l.toArray true).wp P Q ⟨T0,D⟩ w:=by
 have h1:=h.at_;have e9:(fun i=>(Array.replicate l.toArray.size false).getD i false)=(fun _=>false):=funext fun i=>lN _ _;refine wp_region_any hm (yM hB rfl (fun i j v w w' hij hd=>stab i j v w w' hij hd.b) (fun i o ho=>?_) hfin _ _ _ _ ⟨Hb,fun i o ho hl=>?_,rfl,⟨rfl,fun _ _=>rfl⟩,fun i o ho hl=>?_,by rw [e9];exact hJ⟩ ?_)
 ·have:=h1 i o (by simpa using ho)
  rwa [Nat.zero_add] at this
 ·simp only at hl;rw [lN] at hl;cases hl
 ·rw [lN] at hl;cases hl
 ·exact Nat.le_trans List.countP_le_length Hb
end
def Kn (w:World) (u:Value) (m:Nat) (news:List Value):Prop:=(u=.slice none 0 0/\m=0)\/∃ ad c,u=.slice (some ad) m c/\∀ j x,news[j]?=some x->w.cell? (ad.add j)=some x
def nG (e sz N:Nat) (w w':World):Prop:=∀ v n xs,n<=N->w.ownsRow 0 e sz v n xs->w'.ownsRow 0 e sz v n xs
theorem nG.refl (e sz N:Nat) (w:World):nG e sz N w w:=fun _ _ _ _ h=>h
theorem nG.of {w w':World} {e sz n:Nat} {v:Value} {xs:List Value} (hsz:0<sz) (h:w.ownsRow 0 e sz v n xs) (h':w'.ownsRow 0 e sz v n xs) (hg:w.grownBy w' v.ownBlock):nG e sz n w w':=by
 intro v2 n2 xs2 hn ho;by_cases hb:v2.ownBlock=Option.none\/v2.ownBlock≠v.ownBlock
 ·exact ho.kept hg hb
 ·rcases ho.2 with ⟨rfl,_⟩ | ⟨g,cap,cur,rfl,hb0,hgg,hnc,hcm,hcs,ht⟩
  ·exact absurd (.inl rfl) hb
  ·rcases h.2 with ⟨rfl,_⟩ | ⟨g2,cap2,cur2,rfl,_,hgg2,hnc2,hcm2,hcs2,ht2⟩
   ·exact absurd (.inr (by simp [Value.ownBlock])) hb
   ·have eg:g=g2:=by
     rcases Nat.decEq g g2 with e | e
     ·exact absurd (.inr (by simp [Value.ownBlock];exact e)) hb
     ·exact e
    subst eg;rw [hgg] at hgg2;injection hgg2 with hgg2;injection hgg2 with hgg2
    subst hgg2;rcases h'.2 with ⟨e1,_⟩ | ⟨g3,cap3,cur3,e1,_,hgg3,hnc3,hcm3,hcs3,ht3⟩
    ·cases e1
    ·injection e1 with e1 e2 e3
     injection e1 with e1;injection e1 with e1
     subst e1;subst e3;have ec:cap=cap2:=Nat.eq_of_mul_eq_mul_right hsz (by rw [<- hcs,<- hcs2]);subst ec;refine ⟨ho.1,.inr ⟨g,cap,cur3,rfl,hb0,hgg3,hnc,hcm,hcs3,?_⟩⟩;have h1:n2*sz<=n*sz:=Nat.mul_le_mul_right _ hn;have e4:(cur3.toList.take (n*sz)).take (n2*sz)=(cur.toList.take (n*sz)).take (n2*sz):=by rw [ht3,ht2]
     rw [List.take_take,List.take_take,Nat.min_eq_left h1] at e4;rw [e4];exact ht
section
variable {P:Program} {o:Oper} {a:Act} {w:World} {K:Act->World->Prop} {Q:Exit->Act->World->Prop}
theorem yN (s x:Operand) (t:TypeId) (ho:o.op=.call { callee:=.builtin .append,args:=#[s,x],argTypes:=#[t,t] })
 (e:TypeId) (i:TypeInfo) (z:Value) (size bytes:Nat) (ht:P.underlying t=some (.slice e)) (hi:P.info? e=some i) (hz:i.zero=some z)
 (hsize:i.size=size) (hby:i.bytes=bytes) (hzs:z.cells.size=size) (hsz:0<size)
 (v:Value) (n:Nat) (xs:List Value) (hs:a.eval s=v) (hown:w.ownsRow 0 e size v n xs)
 (u:Value) (m:Nat) (news:List Value) (hx:a.eval x=u) (hsrc:Kn w u m news) (hl:news.length=m*size) (h1:∀ y∈news,y.oneCell'=true)
 (h63:n+m<=maxLen) (hbytes:(n+m)*bytes<=140737488355328)
 (h:∀ v' w',w'.ownsRow 0 e size v' (n+m) (xs++news)->w.grownBy w' v.ownBlock->(v'.ownBlock=v.ownBlock\/v'.ownBlock=some w.heap.size)->nG e size n w w'->K (a.put o.dst v') w'):o.wp P a w K Q:=by
 rcases hsrc with ⟨rfl,rfl⟩ | ⟨ad,c,rfl,hnews⟩
 ·have hn0:news=[]:=List.eq_nil_of_length_eq_zero (by simpa using hl);subst hn0;have hr:=run_append_owned_none (P:=P) (w:=w) 0 t o.type e i size ht hi v n xs hown;unfold Oper.wp execOp;simp only [ho,resolve,invoke,builtin,Sem.run_bind,Sem.run_pure,Result.andThen_ok,List.map_toArray,List.map_cons,List.map_nil,hs,hx,hr];exact h v w (by simpa using hown) (World.grownBy.refl w _) (.inl rfl) (nG.refl _ _ _ _)
 ·obtain ⟨v',w',hr,h2,h3,h4,h5⟩:=run_append_own_at (P:=P) w 0 t o.type e i z size bytes ht hi hz hsize hby hzs hsz v n xs hown ad m c news hl hnews h1 h63 hbytes (Nat.zero_le _);unfold Oper.wp execOp;simp only [ho,resolve,invoke,builtin,Sem.run_bind,Sem.run_pure,Result.andThen_ok,List.map_toArray,List.map_cons,List.map_nil,hs,hx,hr];exact h v' w' h2 h3 h5 (nG.of hsz hown (iV t o.type e i z size bytes ht hi hz hsize hby hzs hsz v n xs hown ad m c news hl hnews h1 h63 hbytes hr) h3)
end
theorem lD {W:World} {B e sz n q:Nat} {v:Value} {xs:List Value} (h:W.ownsRow B e sz v n xs) {C:Array Value} {t:TypeId} {fr:Nat × Nat} (h2:W.heap[q]?=some (.cells C t fr)) (ht:t≠e):v.ownBlock≠some q:=by
 intro hq;rcases h.2 with ⟨rfl,_⟩ | ⟨g,cap,cur,rfl,hb,hg,_⟩
 ·cases hq
 ·have:g=q:=by injection hq
  subst this;rw [hg] at h2;injection h2 with h2;injection h2 with _ h2 _
  exact ht h2.symm
theorem jr (S:List Bk) (x:Wr) (l:List Wr):applyW S (x :: l)=applyW (if 0<=x.t/\x.t<S.length then S.set x.t.toNat ⟨x.k,x.bs⟩ else S) l:=rfl
theorem ow:∀ (P:List Wr) (S:List Bk) (i:Nat),(∀ x∈P,x.t≠i)->(applyW S P)[i]?=S[i]?
 | [],_,_,_=>rfl
 | x :: l,S,i,h=>by
   rw [jr,ow l _ i (fun y hy=>h y (by simp [hy]))];split
   ·rename_i hc;rw [List.getElem?_set_ne];intro e;exact h x Hb Ha
   ·rfl
theorem qX:∀ (P:List Wr) (S:List Bk),P.Pairwise (fun a b=>a.t<b.t)->∀ x∈P,0<=x.t->x.t<S.length->(applyW S P)[x.t.toNat]?=some ⟨x.k,x.bs⟩
 | [],_,_,_,h,_,_=>by cases h
 | y :: l,S,hp,x,hx,h0,h1=>by
   rw [List.pairwise_cons] at hp;rw [jr];rcases List.mem_cons.1 hx with rfl | hx
   ·rw [if_pos ⟨h0,h1⟩,ow l _ _ (fun z hz e=>by have:=hp.1 z hz;omega),List.getElem?_set_self Ha]
   ·refine qX l _ hp.2 x hx h0 ?_;split
    ·rw [List.length_set];exact h1
    ·exact h1
def fndI (P:List Wr) (t:Int):Nat:=(P.takeWhile fun x=>decide (x.t<t)).length
def lK (P:List Wr) (t:Int):Bool:=match P[fndI P t]? with | some x=>decide (x.t=t) | none=>false
theorem uD (P:List Wr) (t:Int):fndI P t<=P.length:=(List.takeWhile_prefix _).length_le
theorem uE:∀ {P:List Wr} {t:Int} {k:Nat} {y:Wr},k<fndI P t->P[k]?=some y->y.t<t
 | [],_,_,_,_,hy=>by cases hy
 | z :: l,t,k,y,hk,hy=>by
   unfold fndI at hk;rw [List.takeWhile_cons] at hk;by_cases h:z.t<t
   ·rw [if_pos (decide_eq_true h),List.length_cons] at hk;cases k with
    | zero=>injection hy with hy;subst hy;exact h
    | succ k=>exact uE (P:=l) (k:=k) (by unfold fndI;omega) hy
   ·rw [if_neg (by simpa using h)] at hk;exact absurd hk Hb
theorem ox:∀ {P:List Wr} {t:Int} {y:Wr},P[fndI P t]?=some y->¬ y.t<t
 | [],_,_,hy=>by cases hy
 | z :: l,t,y,hy=>by
   unfold fndI at hy;rw [List.takeWhile_cons] at hy;by_cases h:z.t<t
   ·rw [if_pos (decide_eq_true h),List.length_cons,List.getElem?_cons_succ] at hy;exact ox (P:=l) hy
   ·rw [if_neg (by simpa using h)] at hy;injection hy with hy;subst hy;exact h
theorem qY {P:List Wr} {t:Int} (h:lK P t=true):∃ x,P[fndI P t]?=some x/\x.t=t:=by
 unfold lK at h;cases hq:P[fndI P t]? with
 | none=>rw [hq] at h;cases h
 | some x=>rw [hq] at h;exact ⟨x,rfl,by simpa using h⟩
theorem Ai {P:List Wr} {t:Int} (hp:P.Pairwise (fun a b=>a.t<b.t)) (h:lK P t=false):(∀ k y,P[k]?=some y->k<fndI P t->y.t<t)/\(∀ k y,P[k]?=some y->fndI P t<=k->t<y.t):=by
 refine ⟨fun k y hy hk=>uE hk hy,fun k y hy hk=>?_⟩;have hkl:=(List.getElem?_eq_some_iff.1 hy).1;obtain ⟨z,hz⟩:∃ z,P[fndI P t]?=some z:=⟨_,List.getElem?_eq_getElem Ha⟩
 have h1:=ox hz;have h2:z.t≠t:=fun e=>by unfold lK at h;rw [hz] at h;simp [e] at h
 by_cases e:k=fndI P t
 ·subst e;rw [hz] at hy;injection hy with hy;subst hy;omega
 ·have h3:=List.pairwise_iff_getElem.1 hp (fndI P t) k Ha hkl Ha;rw [(List.getElem?_eq_some_iff.1 hz).2,(List.getElem?_eq_some_iff.1 hy).2] at h3;omega
theorem BO {P:List Wr} {t:Int} (hp:P.Pairwise (fun a b=>a.t<b.t)) (h:lK P t=false):∀ x∈P,x.t≠t:=fun x hx e=>by
 obtain ⟨k,hk⟩:=List.getElem?_of_mem hx;have:=Ai hp h;by_cases hlt:k<fndI P t
 ·have:=this.1 k x hk hlt;omega
 ·have:=this.2 k x hk Ha;omega
def gm (P:List Wr) (w:Wr):List Wr:=if lK P w.t then P.set (fndI P w.t) w else P.take (fndI P w.t)++w :: P.drop (fndI P w.t)
theorem wZ {P:List Wr} {w x:Wr} (h:x∈gm P w):x=w\/x∈P:=by
 unfold gm at h;split at h
 ·rcases List.mem_or_eq_of_mem_set h with h | h
  ·exact .inr h
  ·exact .inl h
 ·rcases List.mem_append.1 h with h | h
  ·exact .inr (List.mem_of_mem_take h)
  ·rcases List.mem_cons.1 h with h | h
   ·exact .inl h
   ·exact .inr (List.mem_of_mem_drop h)
theorem xa {P:List Wr} (hp:P.Pairwise (fun a b=>a.t<b.t)) (w:Wr):(gm P w).Pairwise (fun a b=>a.t<b.t):=by
 unfold gm;by_cases h:lK P w.t=true
 ·rw [if_pos h];obtain ⟨x,hx,e⟩:=qY h;rw [List.pairwise_iff_getElem] at hp ⊢;intro i j hi hj hij;have hil:i<P.length:=by simpa using hi
  have hjl:j<P.length:=by simpa using hj
  have h0:=hp i j hil hjl hij;have hxe:=(List.getElem?_eq_some_iff.1 hx).2;rw [List.getElem_set,List.getElem_set];split
  ·split
   ·omega
   ·rename_i e1 _;subst e1;rw [hxe] at h0;omega
  ·split
   ·rename_i e1;subst e1;rw [hxe] at h0;omega
   ·exact h0
 ·have h':lK P w.t=false:=by simpa using h
  rw [if_neg h];obtain ⟨h1,h2⟩:=Ai hp h';rw [List.pairwise_append];refine ⟨hp.take,?_,?_⟩
  ·rw [List.pairwise_cons];refine ⟨fun y hy=>?_,hp.drop⟩;obtain ⟨k,hk⟩:=List.getElem?_of_mem hy;rw [List.getElem?_drop] at hk;exact h2 _ y hk Ha
  ·intro a ha b hb;obtain ⟨k,hk⟩:=List.getElem?_of_mem ha;rw [List.getElem?_take] at hk;split at hk
   ·rename_i hlt;have ha1:=h1 k a hk hlt;rcases List.mem_cons.1 hb with rfl | hb
    ·exact ha1
    ·obtain ⟨j,hj⟩:=List.getElem?_of_mem hb;rw [List.getElem?_drop] at hj;have:=h2 _ b hj Ha;omega
   ·cases hk
theorem xc (P:List Wr) (w:Wr):(gm P w).length<=P.length+1:=by
 have:=uD P w.t;unfold gm;split
 ·rw [List.length_set];omega
 ·simp;omega
def gB (N:List Bk) (t:Int):Bk:=if 0<=t then iD N t else zB
theorem yO {N:List Bk} {t:Int} (h:¬ (0<=t/\t<N.length)):gB N t=zB:=by
 unfold gB;split
 ·unfold iD;rw [List.getD,List.getElem?_eq_none Ha];rfl
 ·rfl
theorem DZ {N:List Bk} {i:Nat} {x:Bk} (h:N[i]?=some x):gB N i=x:=by
 unfold gB;rw [if_pos Ha];exact kl h
theorem BP {P:List Wr} {S:List Bk} (hp:P.Pairwise (fun a b=>a.t<b.t)) (hin:∀ x∈P,0<=x.t/\x.t<S.length) {t:Int} (h:lK P t=true):∃ x,P[fndI P t]?=some x/\gB (applyW S P) t=⟨x.k,x.bs⟩/\(0<=t/\t<S.length):=by
 obtain ⟨x,hx,e⟩:=qY h;have hm:=List.mem_of_getElem? hx;have hi:=hin x hm;have:=qX P S hp x hm hi.1 hi.2;refine ⟨x,hx,?_,Ha⟩;have e2:t=(x.t.toNat:Int):=Ha;rw [e2];exact DZ this
theorem FK {P:List Wr} {v:VM} (hv:v.Ok) (hp:P.Pairwise (fun a b=>a.t<b.t)) {t:Int} (h:lK P t=false):gB (applyW (kf v) P) t=⟨(lI v t).k,(lI v t).bs⟩/\im v t=decide (0<=t/\t<v.n):=by
 have hl:=gU hv;refine ⟨?_,by unfold im;simp⟩;by_cases ht:0<=t/\t<v.n
 ·obtain ⟨i,rfl⟩:∃ i:Nat,t=i:=⟨t.toNat,Ha⟩
  obtain ⟨x,hx⟩:∃ x,v.B[i]?=some x:=⟨_,List.getElem?_eq_getElem (by rw [hv.len];omega)⟩
  have h2:=ow P (kf v) i (fun y hy=>BO hp h y hy);have h3:(kf v)[i]?=some (val x):=by unfold kf;rw [List.getElem?_map,hx];rfl
  rw [h3] at h2;rw [DZ h2,(ua hv.len hx).2];rfl
 ·rw [yO (by rw [cZ,hl];exact ht)];have:im v t=false:=by unfold im;simp;omega
  unfold lI;rw [if_neg (by rw [this];decide)];rfl
def nH (S:List Bool):List Value:=(S++List.replicate (200-S.length) false).map Value.bool
def ja (S:List Bool):Array Value:=(Value.int .i64 S.length :: (nH S++[.int .i64 (S.count false)])).toArray
structure bm (w:World) (g:Nat) (S:List Bool):Prop where
 len:S.length<=200
 hp:w.heap[g]?=some (.cells (ja S) 197 (0,0))
def yP (S:List Bool) (i:Int):Bool:=decide (0<=i)&&decide (i<S.length)
def Ey (S:List Bool) (i:Int):Bool:=yP S i&&S.getD i.toNat false
def setB (S:List Bool) (i:Int) (b:Bool):List Bool:=if yP S i then S.set i.toNat b else S
theorem gV {S:List Bool} (h:S.length<=200):(nH S).length=200:=by unfold nH;simp;omega
theorem D0 {S:List Bool} {i:Nat} {b:Bool} (h:S[i]?=some b):(nH S)[i]?=some (.bool b):=by
 unfold nH;have hl:=(List.getElem?_eq_some_iff.1 h).1;rw [List.getElem?_map,List.getElem?_append_left hl,h];rfl
theorem D3 (S:List Bool):(ja S)[0]?=some (.int .i64 S.length):=rfl
theorem D4 {S:List Bool} (hl:S.length<=200) {i:Nat} {b:Bool} (h:S[i]?=some b):(ja S)[i+1]?=some (.bool b):=by
 have hi:=(List.getElem?_eq_some_iff.1 h).1;unfold ja;rw [List.getElem?_toArray,List.getElem?_cons_succ,List.getElem?_append_left (by rw [gV hl];omega)];exact D0 h
theorem yQ {S:List Bool} (hl:S.length<=200):(ja S)[201]?=some (.int .i64 (S.count false)):=by
 unfold ja;rw [List.getElem?_toArray,List.getElem?_cons_succ,List.getElem?_append_right (by rw [gV hl];omega),gV hl];rfl
theorem BQ (S:List Bool) {i:Nat} (hi:i<S.length) (b:Bool):(nH S).set i (.bool b)=nH (S.set i b):=by
 unfold nH;rw [<- List.map_set,List.length_set,List.set_append_left _ _ hi]
theorem BR {S:List Bool} (hl:S.length<=200) {i:Nat} (hi:i<S.length) (b:Bool) :
 ((ja S).setIfInBounds (1+i) (.bool b)).setIfInBounds 201 (.int .i64 ((S.set i b).count false))=ja (S.set i b):=by
 rw [Nat.add_comm 1 i];unfold ja;simp only [List.setIfInBounds_toArray,List.set_cons_succ];rw [List.set_append_left _ _ (by rw [gV hl];omega),BQ S hi,List.set_append_right _ _ (by rw [gV (by simpa using hl)];exact Nat.le_refl _),gV (by simpa using hl),List.length_set];rfl
section
variable {w w':World} {g:Nat} {S:List Bool}
theorem bm.below (h:bm w g S) (hb:Below w.heap.size w w'):bm w' g S:=⟨h.len,by rw [hb.block g (ai h.hp)];exact h.hp⟩
theorem bm.c0 (h:bm w g S):w.cell? ⟨g,0,none⟩=some (.int .i64 S.length):=(af h.hp 0).trans (D3 S)
theorem bm.cAt (h:bm w g S) {i:Nat} {b:Bool} (hi:S[i]?=some b):w.cell? ⟨g,1+i,none⟩=some (.bool b):=by rw [Nat.add_comm];exact (af h.hp _).trans (D4 h.len hi)
theorem bm.cl (h:bm w g S):w.cell? ⟨g,201,none⟩=some (.int .i64 (S.count false)):=(af h.hp 201).trans (yQ h.len)
theorem bm.fz (h:bm w g S) (i:Nat):w.frozen? ⟨g,i,none⟩=false:=az h.hp i
end
theorem qZ {S:List Bool}:∀ {i:Nat},S[i]?=some false->(S.set i true).count false+1=S.count false:=by
 induction S with
 | nil=>intro i h;cases h
 | cons x T ih =>
   intro i h;cases i with
   | zero=>simp at h;subst h;simp
   | succ i =>
     rw [List.getElem?_cons_succ] at h;have:=ih h;rw [List.set_cons_succ,List.count_cons,List.count_cons];omega
theorem bm.put {w:World} {g:Nat} {S:List Bool} (h:bm w g S) {i:Nat} (hi:i<S.length) (b:Bool) {c:Int} (hc:c=((S.set i b).count false:Nat)) :
 bm ((w.setCell ⟨g,1+i,none⟩ (.bool b)).setCell ⟨g,201,none⟩ (.int .i64 c)) g (S.set i b)/\aD (fun k=>k=g) w ((w.setCell ⟨g,1+i,none⟩ (.bool b)).setCell ⟨g,201,none⟩ (.int .i64 c)):=by
 subst hc;refine ⟨⟨by simpa using h.len,?_⟩,((aD.refl (fun k=>k=g) w).setCell (p:=⟨g,1+i,none⟩) rfl _).setCell (p:=⟨g,201,none⟩) rfl _⟩;rw [<- BR h.len hi b];exact ah (ah h.hp _) _
theorem yR (n:Int):Tryz.prog.built 197 [(0,.int .i64 n),(2,.int .i64 n)]=some (.int .i64 n :: ((List.replicate 200 (Value.bool false))++[.int .i64 n])).toArray:=Hc
theorem BS (k:Nat) (hk:k<=200):(Value.int .i64 (k:Int) :: ((List.replicate 200 (Value.bool false))++[.int .i64 (k:Int)])).toArray=ja (List.replicate k false):=by
 unfold ja nH;rw [List.length_replicate,List.count_replicate_self,List.replicate_append_replicate,List.map_replicate,show k+(200-k)=200 by omega]
section
variable {ops:Array Oper} {rest:List Oper} {o:Oper} {a:Act} {w:World} {Q:Exit->Act->World->Prop}
theorem gW (hgd:o.guard=none) (x0 x2:Operand) (ho:o.op=.build 197 #[(0,x0),(2,x2)]) (n:Int) (C:Array Value) (hb:Tryz.prog.built 197 [(0,.int .i64 n),(2,.int .i64 n)]=some C) (h0:a.eval x0=.int .i64 n) (h2:a.eval x2=.int .i64 n)
 (h:wpList Tryz.prog ops Q rest (a.put o.dst (.agg C)) w):wpList Tryz.prog ops Q (o :: rest) a w :=
 wpList_plain hgd fun _ hK=>by
  unfold Oper.wp execOp;have hb:=run_build (P:=Tryz.prog) w 197 #[(0,.int .i64 n),(2,.int .i64 n)] _ hb;simp only [ho,List.map_toArray,List.map_cons,List.map_nil,h0,h2,Sem.run_bind,hb,Result.andThen_ok,Sem.run_pure];exact hK _ _ h
end
theorem Aj (x:Int) (hx:i64 x) (w:World):Calls Tryz.prog 108 #[.int .i64 x] w fun e w'=>∃ g,e=.returned (.pointer (some ⟨g,0,none⟩))/\g=w.heap.size/\bm w' g (List.replicate (min (max x 0) 200).toNat false)/\Below w.heap.size w w':=by
 obtain ⟨k,hk,hk2⟩:∃ k:Nat,(min (max x 0) 200)=(k:Int)/\k<=200:=⟨(min (max x 0) 200).toNat,Ha,Ha⟩
 have hb:=yR (k:Int);rw [BS k hk2] at hb;have hC:(ja (List.replicate k false)).size=202:=by
  have h0:=gV (S:=List.replicate k false) (by simpa using hk2);unfold ja;simp [h0]
 have HB:=He hb;have HC:=He hC;generalize hCC:ja (List.replicate k false)=C at *;have HCC:=He hCC;rw [hk];clear hb hC hCC;have fin:Hid (ja (List.replicate k false)=C)->k<=200->∃ g,Ending.returned (.pointer (some ⟨w.heap.size,0,none⟩))=Ending.returned (.pointer (some ⟨g,0,none⟩))/\g=w.heap.size/\bm (w.alloc (.cells C 197)) g (List.replicate (k:Int).toNat false)/\Below w.heap.size w (w.alloc (.cells C 197)):=fun h1 h2 =>
  ⟨_,rfl,rfl,⟨by simpa using h2,by rw [Int.toNat_natCast,h1.out];exact heap_alloc_new w _⟩,(Below.refl _ _).alloc (Nat.le_refl _) _⟩
 by_cases h0:x<0
 ·have e0:k=0:=Ha;subst e0;go_enter Tryz.func108,Tryz.ntmps108;go_wp2_with (refine gW rfl _ _ rfl (0:Int) C HB.out rfl rfl ?_)
  go_ret;exact fin HCC hk2
 ·by_cases h1:200<x
  ·have e0:k=200:=Ha;subst e0;go_enter Tryz.func108,Tryz.ntmps108;go_wp2_with (refine gW rfl _ _ rfl (200:Int) C HB.out rfl rfl ?_)
   go_ret;exact fin HCC hk2
  ·have e0:x=k:=Ha;subst e0;go_enter Tryz.func108,Tryz.ntmps108;go_wp2_with (refine gW rfl _ _ rfl (k:Int) C HB.out rfl rfl ?_)
   go_ret;exact fin HCC hk2
theorem uF {w:World} {g:Nat} {S:List Bool} (h:bm w g S) (i:Int):Calls Tryz.prog 113 #[.pointer (some ⟨g,0,none⟩),.int .i64 i] w fun e w'=>e=.returned (.bool (yP S i))/\w=w':=by
 have z0:=h.c0;have HL:=h.len;unfold yP;clear h;go_enter Tryz.func113,Tryz.ntmps113;by_cases h0:0<=i
 ·go_wp2;go_ret;exact ⟨by rw [decide_eq_true h0];rfl,rfl⟩
 ·go_wp2;go_ret;exact ⟨by rw [decide_eq_false (by omega:¬ 0<=i)];rfl,rfl⟩
end Go.Proofs.YtegjelaejbacnaaGreat
