/- For FileForms: contracts and facts, part 23. -/
import Derived.Deep.Slices
import Derived.Deep.Fields
import Derived.ChangeSame
import Derived.OpenShut
import Derived.WalkKit
import Derived.Test.YtegjelaejbacnaaGreatW02
import Derived.Test.YtegjelaejbacnaaGreatW06
import Derived.Test.YtegjelaejbacnaaGreatW12
import Derived.Test.YtegjelaejbacnaaGreatW22
set_option maxRecDepth 100000
set_option maxHeartbeats 25600000
set_option linter.unusedSimpArgs false
set_option linter.unusedVariables false
open Go.ChangeShapes Go.WideShapes Go.ChangeAt Go.RowKit Go.Deep Go
namespace Go.Proofs.YtegjelaejbacnaaGreat
def IK (n:Nat):DM:=fg (rU n 40) (o8 (rU n 40) 0 n 40 1 4 [])
def J5 (n:Nat):VM:=gG (o8 (rU n 40) 0 n 40 1 4 [])
theorem IL (n:Nat) (hn:n<=65):mP [((2+40+n:Nat):Int)]=true:=by
 have h:dq ((2+40+n:Nat):Int)=false:=by
  unfold dq;simp only [Bool.or_eq_false_iff,decide_eq_false_iff_not];omega
 unfold mP;rw [show ([((2+40+n:Nat):Int)].any dq)=false by rw [List.any_cons,h];rfl];rfl
theorem xi {n:Nat} (hn:n<=65):iq (rU n 40) 0 n 40 1 (gc n) [] 0 [] 0/\(rU n 40).stops=false:=by
 obtain ⟨I1,I2,I3⟩:=we (r:=0) (z:=((2+40+n:Nat):Int)) (n:=n) (g:=40) (IL n hn) rfl Ha Ha;exact ⟨I1,I3⟩
structure Ed (m:DM) (v:VM) (n:Nat):Prop where
 lv:Lv m v 0 n 40
 stops:m.stops=false
 done:m.done.length<=2*n+6
 ep:v.ep=2
 st:kf v=gc n
theorem IM {n:Nat} (hn:n<=65):Ed (IK n) (J5 n) n:=by
 obtain ⟨hi,h3⟩:=xi hn;have hmt:=hi.mtb_now;have htd:=hmt.tied 4 Ha Ha;have hns:(fg (rU n 40) (o8 (rU n 40) 0 n 40 1 4 [])).stops=false:=by rw [uf];exact h3
 have hlv:=hmt.live htd Ha (vW hns);have hd1:=mv (rT n 40) (0:Int) n 40;have hd2:=oR (rU n 40) 0 n 40 1 4 [];have hd0:(rT n 40).done.length=0:=rfl;refine ⟨hlv.1.lv,hns,by unfold IK;unfold rU at *;omega,rfl,hlv.1.st⟩
theorem KE {n:Nat} (hn:n<=65):(iB (rT n 40) (0:Int) ((1+40+n:Nat):Int)).isSome=true:=by
 have hf:=qr (r:=0) (z:=((2+40+n:Nat):Int)) (N:=2+40+n) (IL n hn) rfl Ha;obtain ⟨b,hb⟩:=hf.get (i:=1+40+n) Ha;have h1:=hf.rV (1+40+n);rw [hb] at h1;rw [show (0:Int)=((0:Nat):Int) from rfl];show (iB (DM.make [((2+40+n:Nat):Int)]) _ _).isSome=true;rw [h1];rfl
theorem J6 {w0 W:World} {P:Nat->Prop} {q n:Nat} (hn:n<=65) (h1:0<n) (h:DS w0 W P q (rT n 40)) :
 Calls Tryz.prog 42 #[.pointer (some ⟨q,0,none⟩),.int .i64 0,pi 0 0 n 40 4] W fun e w'=>e=.returned (.bool true)/\DS w0 w' P q (rU n 40)/\bv P W w' :=
 Bg h (0:Int) (by constructor <;> omega) n 40 4 Ha Ha (KE hn) (by show (0:Nat)+n<=999000;omega)
theorem IN {w0 W:World} {P:Nat->Prop} {q n:Nat} (hn:n<=65) (h:DS w0 W P q (rU n 40)) :
 Calls Tryz.prog 43 #[.pointer (some ⟨q,0,none⟩),.int .i64 0,pi 0 0 n 40 4] W fun en w'=>∃ hp rb,en=.returned (.tuple #[.pointer (some ⟨hp,0,none⟩),.int .i64 0]) /\
  SV w0 w' (fun k=>P k\/k=hp\/k=rb) q (IK n) hp rb (J5 n)/\bv P W w'/\W.heap.size<=hp/\W.heap.size<=rb:=by
 have hd1:=mv (rT n 40) (0:Int) n 40;have hd0:(rT n 40).done.length=0:=rfl;exact Bj h (r:=0) (e:=1) (S0:=gc n) (Rs:=[]) (xi hn).1.mtb_now Ha Ha 4 Hb (by unfold rU at *;omega)
theorem SV.tv {w0 W:World} {P:Nat->Prop} {q hp rb n:Nat} {m:DM} {v:VM} (h:SV w0 W (fun k=>P k\/k=hp\/k=rb) q m hp rb v) (hs:Ed m v n) (hn:n<=65):∃ F,TV w0 W F q hp rb n 0 m v:=by
 obtain ⟨F,h1,h2,h3⟩:=h.ds.dev;exact ⟨F,h1,h.at_,h2,h3 hp (.inr (.inl rfl)),h3 rb (.inr (.inr rfl)),h.ne,h.lh,h.lr,h.ds.bel,hs.lv,hs.stops,by rw [hs.ep];omega,by have:=hs.done;omega⟩
section
variable {w0 W W':World} {F:Nat->Prop} {q hp rb n c tb:Nat} {m:DM} {v:VM} {ob:Option Nat}
theorem TV.put (h:TV w0 W F q hp rb n c m v) (hg:Am W W' tb ob) (h1:¬ F tb) (h2:∀ k,ob=some k->¬ F k) (h3:w0.heap.size<=tb) (h4:∀ k,ob=some k->w0.heap.size<=k) (h5:tb≠hp) (h6:tb≠rb) (h7:ob≠some hp) (h8:ob≠some rb):TV w0 W' F q hp rb n c m v:=by
 refine ⟨h.dev.keep (fun k hk hf=>hg.block k hk (fun e=>h1 (by rw [<- e];exact hf)) (fun e=>h2 k e.symm hf)) hg.size,h.at_.keep (hg.block _ (ai h.at_.hd) (fun e=>h5 e.symm) (fun e=>h7 e.symm)) (hg.block _ (ai h.at_.row) (fun e=>h6 e.symm) (fun e=>h8 e.symm)),h.low,h.nh,h.nr,h.ne,h.lh,h.lr,?_,h.lv,h.ns,h.ep,h.dn⟩;have hb:=h.bel;exact ⟨hg.os.trans hb.os,hg.tape.trans hb.tape,hg.output.trans hb.output,Nat.le_trans hb.size hg.size,fun k hk=>(hg.block k (Nat.lt_of_lt_of_le hk hb.size) (fun e=>Ha) (fun e=>by have:=h4 k e.symm;omega)).trans (hb.block k hk)⟩
end
theorem rangeB {w:World} {g:Nat} {k:Int} {bs:List Int} {t:TypeId} (h:w.heap[g]?=some (.cells (ab k bs) t (0,0))):w.rangeAt g 0 (blkL k bs):=fun j v hj=>by
 rw [Nat.zero_add,af h,<- Array.getElem?_toList,bp];exact hj
theorem An {o:Oper} {a:Act} {w:World} {K:Act->World->Prop} {Q:Exit->Act->World->Prop} (x y:Operand) (t:TypeId) (ho:o.op=.binOp .neq 37 x y t) (k j:Int) (bs cs:List Int) (hx:a.eval x=.agg (ab k bs)) (hy:a.eval y=.agg (ab j cs)) (hb:bs.length=56) (hc:cs.length=56) (hB:ax bs) (hC:ax cs)
 (h:K (a.put o.dst (.bool (!(decide (k=j/\bs=cs))))) w):o.wp Tryz.prog a w K Q:=by
 have hg:=run_eqGuard_agg (P:=Tryz.prog) w .neq 37 x y (ab k bs) (ab j cs) tT;have hr:=Ik k j bs cs hb hc hB hC w;unfold Oper.wp execOp;simp only [ho,hx,hy,Sem.run_bind,hg,hr,Result.andThen_ok];exact h
theorem zc {o:Oper} {a:Act} {w:World} {K:Act->World->Prop} {Q:Exit->Act->World->Prop} (x y:Operand) (t k:Int) (bs:List Int) (hb:bs.length=56) (ho:o.op=.build 52 #[(0,x),(1,y)]) (hx:a.eval x=.int .i64 t) (hy:a.eval y=.agg (ab k bs))
 (h:K (a.put o.dst (.agg (cI ⟨t,k,bs⟩))) w):o.wp Tryz.prog a w K Q:=by
 unfold Oper.wp execOp;have hb:=run_build (P:=Tryz.prog) w 52 #[(0,.int .i64 t),(1,.agg (ab k bs))] _ (Al t k bs hb);simp only [ho,List.map_toArray,List.map_cons,List.map_nil,hx,hy,Sem.run_bind,hb,Result.andThen_ok];exact h
def ri (b:List Bk) (n k:Nat):List Bk:=b.take k++(gc n).drop k
theorem B8 (b:List Bk) (n:Nat):ri b n 0=gc n:=by unfold ri;simp
theorem r9 {α:Type} {l:List α} {i:Nat} {x:α} (h:l[i]?=some x):l.set i x=l:=by
 apply List.ext_getElem?;intro j;by_cases e:i=j
 ·subst e;rw [List.getElem?_set_self (List.getElem?_eq_some_iff.1 h).1,h]
 ·rw [List.getElem?_set_ne e]
theorem Ao {b:List Bk} {n k:Nat} {y:Bk} (hl:b.length=n) (hy:b[k]?=some y):ri b n (k+1)=(ri b n k).set k y:=by
 have hk:=(List.getElem?_eq_some_iff.1 hy).1;have ht:(b.take k).length=k:=by rw [List.length_take];omega
 have hf:=mu n;unfold ri;rw [au hy,List.append_assoc,List.drop_eq_getElem_cons (i:=k) (l:=gc n) Ha,List.set_append_right _ _ Ha,ht,Nat.sub_self,List.set_cons_zero];rfl
def GK (g n cap k:Nat) (gk:Int) (gbs:List Int) (y:Bk) (i:Nat) (v:Value) (W:World):Prop :=
 match i with
 | 0=>v=.bool true
 | 1 | 2 | 8 | 9 | 20=>v=.bool false
 | 3=>v=.agg (ab gk gbs)
 | 4=>v=.slice (some ⟨g,0,none⟩) n cap
 | 5=>v=.int .i64 (k:Int)
 | 6=>v=.pointer (some ⟨g,k*57,none⟩)
 | 7=>v=.agg (ab y.k y.bs)
 | _=>True
def Ee (w8:World) (g n cap k hp:Nat) (gk:Int) (gbs:List Int) (y:Bk) (i:Nat) (v:Value) (W:World):Prop :=
 match i with
 | 0 | 8 | 9=>v=.bool true
 | 1 | 2 | 19 | 20=>v=.bool false
 | 3=>v=.agg (ab gk gbs)
 | 4 | 12=>v=.slice (some ⟨g,0,none⟩) n cap
 | 5 | 11 | 13=>v=.int .i64 (k:Int)
 | 6 | 14=>v=.pointer (some ⟨g,k*57,none⟩)
 | 7 | 15=>v=.agg (ab y.k y.bs)
 | 10=>v=.pointer (some ⟨hp,0,none⟩)
 | 16=>v=.agg (cI ⟨(k:Int),y.k,y.bs⟩)
 | 18=>v=.int .i64 0
 | 17=>(∃ b0,v=.slice (some ⟨b0,0,none⟩) 1 1/\w8.heap.size<=b0/\W.heap[b0]?=some (.cells (cI ⟨(k:Int),y.k,y.bs⟩) 52 (0,0)))
 | _=>True
structure kS (w8 W0:World) (g n cap B:Nat) (b:List Bk) (p11:Nat) (gk:Int) (gbs:List Int) (F:Nat->Prop) (q hp rb k:Nat) (m:DM) (v:VM) (L18:Bool) (W:World):Prop where
 box:W.heap[p11]?=some (.cells (ab gk gbs) 37 (0,0))
 row:cj W B g n cap b
 size:w8.heap.size<=W.heap.size
 a:L18=false->TV W0 W F q hp rb n k m v
 c:L18=true->∃ F m v,TV W0 W F q hp rb n (k+1) m v/\kf v=ri b n (k+1)
theorem kS.below {w8 W0:World} {g n cap B:Nat} {b:List Bk} {p11:Nat} {gk:Int} {gbs:List Int} {F:Nat->Prop} {q hp rb k:Nat} {m:DM} {v:VM} {L18:Bool} {W W':World} (h:kS w8 W0 g n cap B b p11 gk gbs F q hp rb k m v L18 W) (hb:Below W.heap.size W W'):kS w8 W0 g n cap B b p11 gk gbs F q hp rb k m v L18 W' :=
 ⟨Go.Proofs.YtegjelaejbacnaaGreat.kb hb h.box,h.row.below hb,Nat.le_trans h.size hb.size,fun e=>(h.a e).below hb,fun e=>by obtain ⟨F,m,v,h1,h2⟩:=h.c e;exact ⟨F,m,v,h1.below hb,h2⟩⟩
theorem kS.id {w8 W0:World} {g n cap B:Nat} {b:List Bk} {p11:Nat} {gk:Int} {gbs:List Int} {F:Nat->Prop} {q hp rb k:Nat} {m:DM} {v:VM} {L18:Bool} {W:World} (h:kS w8 W0 g n cap B b p11 gk gbs F q hp rb k m v L18 W):kS w8 W0 g n cap B b p11 gk gbs F q hp rb k m v L18 W:=h
def B9 (w8 w w':World):Prop:=∀ j,w8.heap.size<=j->j<w.heap.size->w'.heap[j]?=w.heap[j]?
theorem B9.of {w8 w w':World} (hb:Below w.heap.size w w'):B9 w8 w w':=fun j _ hj=>hb.block j hj
theorem rj {W:World} {B g n cap:Nat} {b:List Bk} (h:cj W B g n cap b) (h1:0<n) (h45:n<=65) :
 Calls Tryz.prog 15 #[.slice (some ⟨g,0,none⟩) n cap] W fun e w'=>∃ q hp,e=.returned (.tuple #[.pointer (some ⟨q,0,none⟩),.pointer (some ⟨hp,0,none⟩),.bool true])/\∃ F rb m v,TV W w' F q hp rb n n m v/\kf v=b:=by
 have hsh:=heap_alloc_new W (Obj.cells #[.int .i64 0,.int .i64 0,.int .i64 0,.int .i64 0,.int .i64 0] 97);have e2:=am (D:=yi n 40 4) hsh;have hb2:Below W.heap.size W ((W.alloc (Obj.cells #[.int .i64 0,.int .i64 0,.int .i64 0,.int .i64 0,.int .i64 0] 97)).setRow W.heap.size (yi n 40 4)):=below_setRow ((Below.refl _ _).alloc (Nat.le_refl _) _) (Nat.le_refl _) _;have HR:=He h;have HSH:=He hsh;have hncap:n<=cap/\cap<=9223372036854775807:=by
  obtain ⟨cur,_,h2,h3,_⟩:=gE h.own;exact ⟨h2,by simp only [maxLen] at h3;omega⟩
 obtain ⟨g5,hg5⟩:∃ g5,g5=W.heap.size:=⟨_,rfl⟩
 rw [<- hg5] at e2;have HG5:=He hg5;have HB2:Hid (Below W.heap.size W ((W.alloc (Obj.cells #[.int .i64 0,.int .i64 0,.int .i64 0,.int .i64 0,.int .i64 0] 97)).setRow g5 (yi n 40 4))):=by rw [hg5];exact hb2
 have hz:((2+40+n:Nat):Int)=42+(n:Int):=Ha;have hmy:=IL n h45;rw [hz] at hmy;have HMY:=He hmy;have HDV:Hid (DM.make [42+(n:Int)]=rT n 40):=by rw [<- hz];rfl
 have HST:=He (IM h45);clear hb2 h hsh hg5 hz hmy;go_enter Tryz.func15,Tryz.ntmps15;go_upto_region 2 with (refine rR rfl (.tmp 5) (.tmp 15) rfl W.heap.size rfl n 40 4 rfl _ rfl HSH.out ?_)
 rw [<- HG5.out];clear HSH;generalize (W.alloc (Obj.cells #[.int .i64 0,.int .i64 0,.int .i64 0,.int .i64 0,.int .i64 0] 97)).setRow g5 (yi n 40 4)=w2 at *;simp only [Act.put];have HE2:=He e2;clear e2;go_wp2_with (refine ni rfl (.tmp 5) rfl g5 rfl n 40 4 HE2.out ?_)
 refine (vt 0 0 n 40 4 Ha Ha w2).mono ?_;rintro e w3 ⟨rfl,hb3⟩;have HE3:=He (Go.Proofs.YtegjelaejbacnaaGreat.kb hb3 HE2.out);have HB3:=He (HB2.out.trans (hb3.mono HB2.out.size));clear hb3 HE2;go_wp2_with fail
 refine (G0 _ w3.heap.size [42+(n:Int)] 1 rfl HMY.out (fun x hx=>by simp at hx;subst hx;constructor <;> omega) _ (heap_alloc_new w3 _)).mono ?_;rintro e w4 ⟨⟨q,F,rfl,hd,hF⟩,hb4⟩;rw [HDV.out] at hd;have hba:=HB3.out.alloc HB3.out.size (Obj.cells #[.int .i64 (42+(n:Int))] 3);have hds:=DS.made hba hd hF hb4;have hg5:g5<(w3.alloc (Obj.cells #[.int .i64 (42+(n:Int))] 3)).heap.size:=by
  have h1:=ai HE3.out;have h2:=((Below.refl w3.heap.size w3).alloc (Nat.le_refl _) (Obj.cells #[.int .i64 (42+(n:Int))] 3)).size;omega
 have HE4:=He (Go.Proofs.YtegjelaejbacnaaGreat.kb hb4 (Go.Proofs.YtegjelaejbacnaaGreat.kb ((Below.refl w3.heap.size w3).alloc (Nat.le_refl _) (Obj.cells #[.int .i64 (42+(n:Int))] 3)) HE3.out));have HS3:=He (And.intro hg5 hba.size);have HD4:=He hds;clear hd hF hb4 hba hds hg5 HE3 HB3 HMY HDV;generalize (w3.alloc (Obj.cells #[.int .i64 (42+(n:Int))] 3)).heap.size=s3 at *;go_wp2_with (refine rS rfl (.tmp 5) rfl g5 rfl n 40 4 HE4.out ?_)
 refine (J6 h45 h1 HD4.out).mono ?_;rintro e w5 ⟨rfl,hd5,hs5⟩;have HE5:=He ((hs5.blk g5 HS3.out.1).trans HE4.out);have HD5:=He hd5;clear hd5 hs5 HE4 HD4;go_wp2_with (refine ni rfl (.tmp 5) rfl g5 rfl n 40 4 HE5.out ?_)
 refine (IN h45 HD5.out).mono ?_;rintro e w6 ⟨hp,rb,rfl,hsv,hs6,hlo1,hlo2⟩;obtain ⟨F0,htv⟩:=hsv.tv HST.out h45;have HT0:Hid (∃ F m v,TV W w6 F q hp rb n 0 m v/\kf v=ri b n 0):=⟨F0,_,_,htv,by rw [B8];exact HST.out.st⟩
 clear hsv hs6 hlo1 hlo2 HE5 HD5 HST htv;go_wp2_with fail
 go_loopw [10,11,12] (fun i _ _ wr=>∃ k:Nat,k<=n/\i=.int .i64 k/\Hid (∃ F m v,TV W wr F q hp rb n k m v/\kf v=ri b n k)) (fun i _ _ _=>n-(intOf i).toNat)
 case atStart=>exact ⟨0,Ha,rfl,HT0⟩
 case round =>
  obtain ⟨k,hk,rfl,HTK⟩:=hrel;clear HT0 HS3;by_cases hlt:k<n
  case neg =>
   obtain rfl:k=n:=Ha;have hki:¬ (k:Int)<k:=Ha;obtain ⟨F,m,v,htv,hst⟩:=HTK.out;have HX:Hid (∃ F rb m v,TV W wr F q hp rb k k m v/\kf v=b):=⟨F,rb,m,v,htv,by rw [hst];unfold ri;rw [<- HR.out.len,List.take_length,List.drop_of_length_le (by rw [mu];exact Nat.le_refl _),List.append_nil]⟩
   clear htv hst HTK;go_wp2_with fail
   go_ret3
   exact ⟨q,hp,rfl,HX.out⟩
  have hki:(k:Int)<n:=Ha;have hkd:decide (n<=k)=false:=decide_eq_false Ha;obtain ⟨F,m,v,htv,hst⟩:=HTK.out;have HTV:=He htv;have HSTV:=He hst;have hrw:=HR.out.below htv.bel;obtain ⟨y,hy⟩:∃ y,b[k]?=some y:=⟨_,List.getElem?_eq_getElem (by rw [HR.out.len];exact hlt)⟩
  have HYI:=He hy;have HYO:=He (hrw.ok y (List.mem_of_getElem? hy));have hvn:=htv.vn;have hvo:=htv.at_.toOk;obtain ⟨z,hz⟩:∃ z,v.B[k]?=some z:=⟨_,List.getElem?_eq_getElem (by rw [hvo.len,hvn];exact hlt)⟩
  obtain ⟨hg1,hg2⟩:=ua hvo.len hz;have HVG:=He (vN htv.at_ (k:Int) (by constructor <;> omega));rw [hg1,hg2] at HVG;have hzo:=hvo.ok z (List.mem_of_getElem? hz);have HG56:Hid (z.bs.length=56/\ax z.bs):=⟨hzo.len,hzo.b⟩
  have HSG:Hid ((kf v)[k]?=some ⟨z.k,z.bs⟩):=by unfold Hid kf;rw [List.getElem?_map,hz];rfl
  have HRW0:=He hrw;clear htv hst hrw hy hvn hvo hz hg1 hg2 hzo HTK;generalize z.k=gk at *;generalize z.bs=gbs at *;clear z;go_wp2_with fail
  refine HVG.out.mono ?_;rintro e w7 ⟨rfl,hb7⟩;have h11:=heap_alloc_new w7 (.cells (ab 0 ay) 37);have hb8:Below wr.heap.size wr ((w7.alloc (.cells (ab 0 ay) 37)).setRow w7.heap.size (ab gk gbs)):=hb7.trans ((below_setRow (aK _) (Nat.le_refl _) _).mono hb7.size);have HB8:=He hb8;have HBX:=He (am (D:=ab gk gbs) h11);have HP11:Hid (wr.heap.size<=w7.heap.size):=hb7.size;have HTV8:=He (HTV.out.below hb8);have HRW:=He (HRW0.out.below hb8);clear hb7 hb8 HRW0;go_upto_region 12 with (first | (refine aq rfl rfl ?_) | (refine ap rfl (.tmp 11) (.tmp 53) rfl w7.heap.size rfl gk 0 gbs ay rfl HG56.out.1 al h11 ?_))
  clear h11;generalize (w7.alloc (.cells (ab 0 ay) 37)).setRow w7.heap.size (ab gk gbs)=w8 at *;generalize w7.heap.size=p11 at *;by_cases heq:gk=y.k/\gbs=y.bs
  ·have HEQ:Hid ((!decide (gk=y.k/\gbs=y.bs))=false):=by unfold Hid;rw [decide_eq_true heq];rfl
   have HNX:Hid (∀ W8,Below w8.heap.size w8 W8->∃ F m v,TV W W8 F q hp rb n (k+1) m v/\kf v=ri b n (k+1)):=fun W8 hb=>by
    refine ⟨F,m,v,(HTV8.out.below hb).mono (Nat.le_succ _),?_⟩;rw [Ao (HR.out.len) HYI.out,<- HSTV.out,r9 (by rw [HSG.out,heq.1,heq.2])]
   clear heq;have hJ0:Below w8.heap.size w8 w8.drew:=(Below.refl _ _).drew;have srefl:∀ (W:World),W.grownBy W none:=fun W=>World.grownBy.refl _ _;refine aw (GK g n cap k gk gbs y) (fun _ W=>Below w8.heap.size w8 W) (fun _ w w'=>w.grownBy w' none) Hc Hc (fun i j v w w' _ _ h hs=>by unfold GK at *;exact h) hJ0 ?_;simp only [bW];refine ⟨?_,?_,?_,?_,?_,?_,?_,?_,?_,?_,?_,?_,?_,?_,?_,?_,?_,?_,?_,?_,?_,?_⟩
   ·refine aa.of rfl fun T W L hag hL hJ hLs hd=>?_;have e12:=Hf hag 12;exact Hi
   ·refine aa.of rfl fun T W L hag hL hJ hLs hd=>?_;have d55:T.getD 55 undef=_:=Hg hd 0 rfl;exact Hi
   ·refine aa.of rfl fun T W L hag hL hJ hLs hd=>?_;have d56:T.getD 56 undef=_:=Hg hd 1 rfl;exact Hi
   ·refine aa.want rfl rfl rfl Hc (fun v w h=>h) fun T W L hag hL hJ hLs hd=>?_;have e11:=Hf hag 11;refine wp_load_mid 37 (.tmp 11) rfl p11 0 e11 (blkL gk gbs) _ (rangeB (Go.Proofs.YtegjelaejbacnaaGreat.kb hJ HBX.out)) Tryz.underlying37 rfl (bQ (x:=⟨gk,gbs⟩) HG56.out.1) ?_;exact ⟨_,rfl,rfl,hJ,srefl _⟩
   ·refine aa.want rfl rfl rfl Hc (fun v w h=>h) fun T W L hag hL hJ hLs hd=>?_;have e0:=Hf hag 0;exact Hi
   ·refine aa.want rfl rfl rfl Hc (fun v w h=>h) fun T W L hag hL hJ hLs hd=>?_;have e10:=Hf hag 10;exact Hi
   ·refine aa.want rfl rfl rfl Hc (fun v w h=>h) fun T W L hag hL hJ hLs hd=>?_;have d59:T.getD 59 undef=_:=Hg hd 4 rfl;have d60:T.getD 60 undef=_:=Hg hd 5 rfl;exact Hi
   ·refine aa.want rfl rfl rfl Hc (fun v w h=>h) fun T W L hag hL hJ hLs hd=>?_;have d61:T.getD 61 undef=_:=Hg hd 6 rfl;refine wp_load_mid 37 (.tmp 61) rfl g (k*57) d61 (blkL y.k y.bs) _ ((HRW.out.below hJ).at_ HYI.out) Tryz.underlying37 rfl (bQ HYO.out.len) ?_;exact ⟨_,rfl,rfl,hJ,srefl _⟩
   ·refine aa.want rfl rfl rfl Hc (fun v w h=>h) fun T W L hag hL hJ hLs hd=>?_;have d58:T.getD 58 undef=_:=Hg hd 3 rfl;have d62:T.getD 62 undef=_:=Hg hd 7 rfl;clear hag hd;refine An (.tmp 58) (.tmp 62) _ rfl gk y.k gbs y.bs d58 d62 HG56.out.1 HYO.out.len HG56.out.2 HYO.out.b ?_;rw [HEQ.out];exact ⟨_,rfl,rfl,hJ,srefl _⟩
   ·refine aa.want rfl rfl rfl Hc (fun v w h=>h) fun T W L hag hL hJ hLs hd=>?_;have d63:T.getD 63 undef=_:=Hg hd 8 rfl;exact Hi
   ·exact aa.skip rfl rfl rfl Hc (fun v w hv=>hv) (fun W=>trivial) (fun L W hJ=>hJ)
   ·exact aa.skip rfl rfl rfl Hc (fun v w hv=>hv) (fun W=>trivial) (fun L W hJ=>hJ)
   ·exact aa.skip rfl rfl rfl Hc (fun v w hv=>hv) (fun W=>trivial) (fun L W hJ=>hJ)
   ·exact aa.skip rfl rfl rfl Hc (fun v w hv=>hv) (fun W=>trivial) (fun L W hJ=>hJ)
   ·exact aa.skip rfl rfl rfl Hc (fun v w hv=>hv) (fun W=>trivial) (fun L W hJ=>hJ)
   ·exact aa.skip rfl rfl rfl Hc (fun v w hv=>hv) (fun W=>trivial) (fun L W hJ=>hJ)
   ·exact aa.skip rfl rfl rfl Hc (fun v w hv=>hv) (fun W=>trivial) (fun L W hJ=>hJ)
   ·exact aa.skip rfl rfl rfl Hc (fun v w hv=>hv) (fun W=>trivial) (fun L W hJ=>hJ)
   ·exact aa.skip rfl rfl rfl Hc (fun v w hv=>hv) (fun W=>trivial) (fun L W hJ=>hJ)
   ·exact aa.skip rfl rfl rfl Hc (fun v w hv=>hv) (fun W=>trivial) (fun L W hJ=>hJ)
   ·refine aa.want rfl rfl rfl Hc (fun v w h=>h) fun T W L hag hL hJ hLs hd=>?_;have d64:T.getD 64 undef=_:=Hg hd 9 rfl;have x74:=Hg hd 19 rfl;exact Hi
   ·refine bg.of rfl fun T W L hag hLs hL hJ hd=>?_;have d57:T.getD 57 undef=_:=hd 2 _ Hb rfl;have d75:T.getD 75 undef=_:=hd 20 _ Hb rfl;obtain ⟨f,hf,hT⟩:=aH hag;have h57:=(hf 57).trans d57;have h75:=(hf 75).trans d75;have HJ:=He hJ;clear hag hd d57 d75 hJ hf;rw [hT];clear hT;simp only [List.pop_toArray,List.dropLast_cons_cons,List.dropLast_singleton,List.filterMap_cons,List.filterMap_nil,List.foldl_cons,List.foldl_nil,List.setIfInBounds_toArray,List.set_cons_succ,List.set_cons_zero,h57,h75];have HJK:=He HJ.out;go_wp2_with fail
    go_roundw
    case rel=>exact ⟨k+1,Ha,by go_num,HNX.out _ HJK.out⟩
    case measure=>simp [intOf];omega
  ·have HEQ:Hid ((!decide (gk=y.k/\gbs=y.bs))=true):=by unfold Hid;rw [decide_eq_false heq];rfl
   have hlth:=HTV8.out.at_;have HLT:Hid (∀ j,w8.heap.size<=j->¬ F j/\j≠hp/\j≠rb):=fun j hj=>⟨HTV8.out.new hj,by have:=ai hlth.hd;omega,by have:=ai hlth.row;omega⟩
   have hp11:=HTV.out.new HP11.out;have HPX:Hid (¬ F p11/\p11≠hp/\p11≠rb):=⟨hp11,by have:=ai HTV.out.at_.hd;have:=HP11.out;omega,by have:=ai HTV.out.at_.row;have:=HP11.out;omega⟩
   have hgW:=HR.out.lt.2;have HGX:Hid (¬ F g/\g≠hp/\g≠rb):=⟨fun hf=>by have:=HTV8.out.low g hf;omega,by have:=HTV8.out.lh;omega,by have:=HTV8.out.lr;omega⟩
   have hmay:mf y.k (k:Int):=⟨HYO.out.k,Ha,Ha⟩
   have hch:jW v [⟨(k:Int),y.k,y.bs⟩]:=by
    refine ⟨⟨Hb,fun x hx=>by rw [List.mem_singleton.1 hx];exact hmay,Hb⟩,?_⟩;unfold dJ im;have:=HTV8.out.vn;simp only [List.all_cons,List.all_nil,Bool.and_true,Bool.and_eq_true,decide_eq_true_eq];omega
   have hstn:kf (rC v [⟨(k:Int),y.k,y.bs⟩])=ri b n (k+1):=by
    rw [If hch,Ao HR.out.len HYI.out,<- HSTV.out,jr,if_pos (by have:=gU HTV8.out.at_.toOk;have:=HTV8.out.vn;simp only;omega)];rfl
   have HCH:Hid (∀ W1 b0,kS w8 W g n cap B b p11 gk gbs F q hp rb k m v false W1->w8.heap.size<=b0->W1.heap[b0]?=some (.cells (cI ⟨(k:Int),y.k,y.bs⟩) 52 (0,0))->Calls Tryz.prog 44 #[.pointer (some ⟨hp,0,none⟩),.slice (some ⟨b0,0,none⟩) 1 1] W1 fun e w'=>e=.returned (.int .i64 0)/\kS w8 W g n cap B b p11 gk gbs F q hp rb k m v true w'/\B9 w8 W1 w'):=fun W1 b0 hJ hb1 hb2=>by
    have htv:=hJ.a rfl;have hlt1:=ai hb2;obtain ⟨n1,n2,n3⟩:=HLT.out b0 hb1;refine (htv.change Ha h45 (some ⟨b0,0,none⟩) [⟨(k:Int),y.k,y.bs⟩] 1 1 rfl Ha Ha (fun x hx=>by rw [List.mem_singleton.1 hx];exact ⟨by constructor <;> (simp only;omega),by have:=HYO.out.k;constructor <;> (simp only;omega),HYO.out.len,HYO.out.b⟩) (fun i x hx=>?_)).mono ?_
    ·obtain ⟨rfl,rfl⟩:i=0/\x=⟨(k:Int),y.k,y.bs⟩:=by
      rcases i with _ | i
      ·exact ⟨rfl,(Option.some.inj hx).symm⟩
      ·cases hx
     refine ⟨_,rfl,fun j u hj=>?_,⟨hlt1,n1,n2,n3⟩⟩;have:=yZ hb2 j u hj;rw [Nat.zero_add] at this;rw [Addr.add_mid,Addr.add_mid];simpa using this
    ·rintro e w' ⟨rfl,F',htv2,hkp⟩;rw [if_pos hch];have fr:∀ j,j<W1.heap.size->¬ F j/\j≠hp/\j≠rb->w'.heap[j]?=W1.heap[j]?:=fun j hj hh=>hkp.blk j ⟨hj,hh.1,hh.2.1,hh.2.2⟩;refine ⟨rfl,⟨(fr p11 (ai hJ.box) HPX.out).trans hJ.box,⟨fy hJ.row.own (fun k2 hk2=>by injection hk2 with hk2;subst hk2;exact fr g hJ.row.lt.2 HGX.out),hJ.row.len,hJ.row.ok⟩,Nat.le_trans hJ.size hkp.size,(fun e=>by cases e),fun _=>⟨F',_,_,htv2,hstn⟩⟩,fun j h1 h2=>fr j h2 (HLT.out j h1)⟩
   clear heq hlth hp11 hgW hmay hch hstn;have hJ0:kS w8 W g n cap B b p11 gk gbs F q hp rb k m v false w8.drew:=⟨HBX.out,⟨fy HRW.out.own (fun _ _=>rfl),HRW.out.len,HRW.out.ok⟩,Nat.le_refl _,fun _=>HTV8.out.below (Below.refl _ _).drew,(fun e=>by cases e)⟩
   have srefl:∀ (W:World),B9 w8 W W:=fun W j _ _=>rfl;refine aw (Ee w8 g n cap k hp gk gbs y) (fun L W1=>kS w8 W g n cap B b p11 gk gbs F q hp rb k m v (L 18) W1) (fun _ w w'=>B9 w8 w w') Hc Hc (fun i j v w w' _ _ h hs=>?_) hJ0 ?_
   ·by_cases h17:j=17
    ·subst h17;unfold Ee at *;obtain ⟨b0,e1,e2,e3⟩:=h;exact ⟨b0,e1,e2,(hs b0 e2 (ai e3)).trans e3⟩
    ·unfold Ee at *;split at h <;> first | exact h | exact absurd rfl h17
   simp only [bW];refine ⟨?_,?_,?_,?_,?_,?_,?_,?_,?_,?_,?_,?_,?_,?_,?_,?_,?_,?_,?_,?_,?_,?_⟩
   ·refine aa.of rfl fun T W L hag hL hJ hLs hd=>?_;have e12:=Hf hag 12;exact Hi
   ·refine aa.of rfl fun T W L hag hL hJ hLs hd=>?_;have d55:T.getD 55 undef=_:=Hg hd 0 rfl;exact Hi
   ·refine aa.of rfl fun T W L hag hL hJ hLs hd=>?_;have d56:T.getD 56 undef=_:=Hg hd 1 rfl;exact Hi
   ·refine aa.want rfl rfl rfl Hc (fun v w h=>h) fun T W L hag hL hJ hLs hd=>?_;have e11:=Hf hag 11;refine wp_load_mid 37 (.tmp 11) rfl p11 0 e11 (blkL gk gbs) _ (rangeB (kS.box hJ)) Tryz.underlying37 rfl (bQ (x:=⟨gk,gbs⟩) HG56.out.1) ?_;exact ⟨_,rfl,rfl,hJ,srefl _⟩
   ·refine aa.want rfl rfl rfl Hc (fun v w h=>h) fun T W L hag hL hJ hLs hd=>?_;have e0:=Hf hag 0;exact Hi
   ·refine aa.want rfl rfl rfl Hc (fun v w h=>h) fun T W L hag hL hJ hLs hd=>?_;have e10:=Hf hag 10;exact Hi
   ·refine aa.want rfl rfl rfl Hc (fun v w h=>h) fun T W L hag hL hJ hLs hd=>?_;have d59:T.getD 59 undef=_:=Hg hd 4 rfl;have d60:T.getD 60 undef=_:=Hg hd 5 rfl;exact Hi
   ·refine aa.want rfl rfl rfl Hc (fun v w h=>h) fun T W L hag hL hJ hLs hd=>?_;have d61:T.getD 61 undef=_:=Hg hd 6 rfl;refine wp_load_mid 37 (.tmp 61) rfl g (k*57) d61 (blkL y.k y.bs) _ ((kS.row hJ).at_ HYI.out) Tryz.underlying37 rfl (bQ HYO.out.len) ?_;exact ⟨_,rfl,rfl,hJ,srefl _⟩
   ·refine aa.want rfl rfl rfl Hc (fun v w h=>h) fun T W L hag hL hJ hLs hd=>?_;have d58:T.getD 58 undef=_:=Hg hd 3 rfl;have d62:T.getD 62 undef=_:=Hg hd 7 rfl;clear hag hd;refine An (.tmp 58) (.tmp 62) _ rfl gk y.k gbs y.bs d58 d62 HG56.out.1 HYO.out.len HG56.out.2 HYO.out.b ?_;rw [HEQ.out];exact ⟨_,rfl,rfl,hJ,srefl _⟩
   ·refine aa.want rfl rfl rfl Hc (fun v w h=>h) fun T W L hag hL hJ hLs hd=>?_;have d63:T.getD 63 undef=_:=Hg hd 8 rfl;exact Hi
   ·refine aa.want rfl rfl rfl Hc (fun v w h=>h) fun T W L hag hL hJ hLs hd=>?_;have e8:=Hf hag 8;exact Hi
   ·refine aa.want rfl rfl rfl Hc (fun v w h=>h) fun T W L hag hL hJ hLs hd=>?_;have e10:=Hf hag 10;exact Hi
   ·refine aa.want rfl rfl rfl Hc (fun v w h=>h) fun T W L hag hL hJ hLs hd=>?_;have e0:=Hf hag 0;exact Hi
   ·refine aa.want rfl rfl rfl Hc (fun v w h=>h) fun T W L hag hL hJ hLs hd=>?_;have e10:=Hf hag 10;exact Hi
   ·refine aa.want rfl rfl rfl Hc (fun v w h=>h) fun T W L hag hL hJ hLs hd=>?_;have d67:T.getD 67 undef=_:=Hg hd 12 rfl;have d68:T.getD 68 undef=_:=Hg hd 13 rfl;exact Hi
   ·refine aa.want rfl rfl rfl Hc (fun v w h=>h) fun T W L hag hL hJ hLs hd=>?_;have d69:T.getD 69 undef=_:=Hg hd 14 rfl;refine wp_load_mid 37 (.tmp 69) rfl g (k*57) d69 (blkL y.k y.bs) _ ((kS.row hJ).at_ HYI.out) Tryz.underlying37 rfl (bQ HYO.out.len) ?_;exact ⟨_,rfl,rfl,hJ,srefl _⟩
   ·refine aa.want rfl rfl rfl Hc (fun v w h=>h) fun T W L hag hL hJ hLs hd=>?_;have d66:T.getD 66 undef=_:=Hg hd 11 rfl;have d70:T.getD 70 undef=_:=Hg hd 15 rfl;clear hag hd;refine zc (.tmp 66) (.tmp 70) (k:Int) y.k y.bs HYO.out.len rfl d66 d70 ?_;exact ⟨_,rfl,rfl,hJ,srefl _⟩
   ·refine aa.want rfl rfl rfl Hc (fun v w h=>h) fun T W L hag hL hJ hLs hd=>?_;have d71:T.getD 71 undef=_:=Hg hd 16 rfl;clear hag hd;obtain ⟨i0,hi,hz0,hz1,hz2⟩:=info_parts lR;refine gf 49 (.tmp 71) rfl 52 i0 _ 58 Tryz.underlying49 hi hz0 hz1 Hd Hd _ d71 (by show (cI _).size=58;exact cQ HYO.out.len) ?_;exact ⟨_,rfl,⟨_,rfl,kS.size hJ,heap_alloc_new _ _⟩,kS.below hJ (aK _),B9.of (aK _)⟩
   ·refine aa.want rfl rfl rfl Hc (fun v w h=>h) fun T W L hag hL hJ hLs hd=>?_;have d65:T.getD 65 undef=_:=Hg hd 10 rfl;have x72:(∃ b0,(T.getD 72 undef)=.slice (some ⟨b0,0,none⟩) 1 1/\w8.heap.size<=b0/\W.heap[b0]?=some (.cells (cI ⟨(k:Int),y.k,y.bs⟩) 52 (0,0))):=Hg hd 17 rfl;obtain ⟨b0,e72,hb1,hb2⟩:=x72;clear hag hd;have HJJ:=He (kS.id hJ);have HL18:Hid (L 18=false):=hL;have HB2:=He hb2;have HB1:=He hb1;clear hJ hL hb1 hb2 hLs;go_simp;refine (HCH.out W b0 (by have:=HJJ.out;rwa [HL18.out] at this) HB1.out HB2.out).mono ?_;rintro en w' ⟨rfl,h1,h2⟩;exact ⟨_,rfl,rfl,h1,h2⟩
   ·refine aa.want rfl rfl rfl Hc (fun v w h=>h) fun T W L hag hL hJ hLs hd=>?_;have d73:T.getD 73 undef=_:=Hg hd 18 rfl;exact Hi
   ·refine aa.want rfl rfl rfl Hc (fun v w h=>h) fun T W L hag hL hJ hLs hd=>?_;have d64:T.getD 64 undef=_:=Hg hd 9 rfl;have d74:T.getD 74 undef=_:=Hg hd 19 rfl;exact Hi
   ·refine bg.of rfl fun T W L hag hLs hL hJ hd=>?_;have d57:T.getD 57 undef=_:=hd 2 _ Hb rfl;have d75:T.getD 75 undef=_:=hd 20 _ Hb rfl;obtain ⟨f,hf,hT⟩:=aH hag;have h57:=(hf 57).trans d57;have h75:=(hf 75).trans d75;have HJ:=He hJ;clear hag hd d57 d75 hJ hf;rw [hT];clear hT;simp only [List.pop_toArray,List.dropLast_cons_cons,List.dropLast_singleton,List.filterMap_cons,List.filterMap_nil,List.foldl_cons,List.foldl_nil,List.setIfInBounds_toArray,List.set_cons_succ,List.set_cons_zero,h57,h75];clear HCH;have HJK:=He (kS.c HJ.out (hLs 18 Hb));clear HJ;go_wp2_with fail
    go_roundw
    case rel=>exact ⟨k+1,Ha,by go_num,HJK.out⟩
    case measure=>simp [intOf];omega
structure Bk.Wk (x:Bk):Prop where
 k:i64 x.k
 len:x.bs.length=56
 b:ax x.bs
section
variable {ops:Array Oper} {rest:List Oper} {o:Oper} {a:Act} {w:World} {Q:Exit->Act->World->Prop} {K:Act->World->Prop}
end
section
variable {H:Type} {enc:TypeId × Value->H} {w:World} {base:Nat} {spare:Nat->Bool} {held:Bool}
end
structure KT (w0 W:World) (F:Nat->Prop) (q hp rb n c:Nat) (m:DM) (v:VM) (tb kb:Nat) (pv:Value) (P:List Wr) (T:List Bool):Prop where
 tv:TV w0 W F q hp rb n c m v
 ks:KS W tb hp kb q rb pv P T v
 ft:¬ F tb
 fk:¬ F kb
 fo:∀ k,pv.ownBlock=some k->¬ F k
 lt:w0.heap.size<=tb
 lk:w0.heap.size<=kb
 lo:∀ k,pv.ownBlock=some k->w0.heap.size<=k
section
variable {w0 W W':World} {F:Nat->Prop} {q hp rb n c tb kb:Nat} {m:DM} {v:VM} {pv:Value} {P:List Wr} {T:List Bool}
theorem KT.below (h:KT w0 W F q hp rb n c m v tb kb pv P T) (hb:Below W.heap.size W W'):KT w0 W' F q hp rb n c m v tb kb pv P T:={ h with tv:=h.tv.below hb,ks:=h.ks.below hb }
theorem KT.vn (h:KT w0 W F q hp rb n c m v tb kb pv P T):v.n=n:=h.tv.vn
theorem KT.hne (h:KT w0 W F q hp rb n c m v tb kb pv P T):tb≠hp/\tb≠rb/\kb≠hp/\kb≠rb:=⟨bu h.ks.tx.hd h.ks.vol.hd Hd,bu h.ks.tx.hd h.ks.vol.row Hd,bu h.ks.tx.bits.hp h.ks.vol.hd Hd,bu h.ks.tx.bits.hp h.ks.vol.row Hd⟩
theorem KT.one (h:KT w0 W F q hp rb n c m v tb kb pv P T):∀ k,pv.ownBlock=some k->k≠hp/\k≠rb:=fun k hk=>by
 obtain ⟨C,hC⟩:=db h.ks.tx.own hk;exact ⟨bu hC h.ks.vol.hd Hd,bu hC h.ks.vol.row Hd⟩
theorem TV.new_tx (h:TV w0 W F q hp rb n c m v) (hn:n<=200) :
 Calls Tryz.prog 16 #[.pointer (some ⟨hp,0,none⟩)] W fun e w'=>∃ tb,e=.returned (.pointer (some ⟨tb,0,none⟩))/\(∃ kb,KT w0 w' F q hp rb n c m v tb kb (.slice none 0 0) [] (List.replicate n false))/\Below W.heap.size W w':=by
 refine (BV h.at_ (by rw [h.vn];exact hn)).mono ?_;rintro e w' ⟨tb,kb,rfl,hk,hb,h1,h2⟩;rw [h.vn] at hk;exact ⟨tb,rfl,⟨kb,h.below hb,hk,h.new h1,h.new h2,(fun k e=>by cases e),Nat.le_trans h.bel.size h1,Nat.le_trans h.bel.size h2,(fun k e=>by cases e)⟩,hb⟩
theorem KT.take (h:KT w0 W F q hp rb n c m v tb kb pv P T) (N:List Bk) (hN:N=applyW (kf v) P) (h1:0<n) (h200:n<=200) :
 Calls Tryz.prog 18 #[.pointer (some ⟨tb,0,none⟩)] W fun e w'=>e=.returned (nI (iy N T))/\KT w0 w' F q hp rb n c m v tb kb pv P (gP N T)/\W.grownBy w' (some kb):=by
 refine (yW h.ks N hN (by rw [hN];exact h.ks.wk) (by rw [h.vn];exact h1) (by rw [h.vn];exact h200)).mono ?_;rintro e w' ⟨rfl,hk,hg⟩;exact ⟨rfl,{ h with tv:=h.tv.touch hg h.fk h.hne.2.2.1 h.hne.2.2.2 h.lk,ks:=hk },hg⟩
theorem KT.get (h:KT w0 W F q hp rb n c m v tb kb pv P T) (N:List Bk) (hN:N=applyW (kf v) P) (t:Int) (ht:i64 t) :
 Calls Tryz.prog 23 #[.pointer (some ⟨tb,0,none⟩),.int .i64 t] W fun e w'=>e=.returned (.tuple #[.agg (ab (gB N t).k (gB N t).bs),.bool (decide (0<=t/\t<n))])/\Below W.heap.size W w':=by
 have:=lE h.ks.tx h.ks.vol h.ks.inn t ht;rw [<- hN,h.vn] at this;exact this
end
abbrev PV:=Value->World->Prop
abbrev EV:=List (Nat × Option Nat × PV)
def fO:EV->Nat->Option (Option Nat × PV)
 | [],_=>none
 | (j,x) :: E,k=>if k=j then some x else fO E k
def dX (E:EV) (T:Array Value) (w:World):List Edge->Prop
 | []=>True
 | e :: es=>if Region.binds .any e=true then (match fO E e.on with | some (some d,V)=>V (T.getD d undef) w/\dX E T w es | _=>dX E T w es) else dX E T w es
def lL (w:World):EV->(Array Value->Prop)->Array Value->Prop
 | [],G=>G
 | (_,some d,V) :: E,G=>lL w E fun T=>∀ v,V v w->G (T.setIfInBounds d v)
 | (_,none,_) :: E,G=>lL w E G
def Ez (i:Nat) (L:Nat->Bool):Nat->Bool:=fun j=>if i=j then true else L j
def FR (ds:List Nat) (T0 T:Array Value):Prop:=∀ s,(∀ d∈ds,d≠s)->T.getD s undef=T0.getD s undef
def Ef (x:Value) (w0:World) (v:Value) (w:World):Prop:=v=x/\w=w0
section
variable {P:Program} {ops:Array Oper} {ds:List Nat} {T0 T:Array Value} {D:List Deferred} {J:(Nat->Bool)->World->Prop} {S:Nat->World->World->Prop} {Q:Exit->Act->World->Prop} {E:EV} {i:Nat} {o o2:Oper} {l:List Oper} {w:World} {L:Nat->Bool}
def J7 (P:Program) (ops:Array Oper) (ds:List Nat) (T0:Array Value) (D:List Deferred) (J:(Nat->Bool)->World->Prop) (S:Nat->World->World->Prop) (Q:Exit->Act->World->Prop) (E:EV) (V:PV) (i:Nat) (o:Oper):Prop :=
 ∀ T w L,(∀ k d V,fO E k=some (d,V)->(ops[k]?).bind (fun o=>o.dst)=d)->FR ds T0 T->L i=false->J L w->(∀ e∈o.after,Region.binds .any e=true->L e.on=true)->dX E T w o.after.toList->(if Region.wanted o (yielded ops T)=true then o.wp P ⟨T,D⟩ w (fun a' w'=>∃ v,a'=(⟨T,D⟩:Act).put o.dst v/\V (match o.dst with | some _=>v | none=>undef) w'/\J (Ez i L) w'/\S i w w') Q else V undef w/\J (Ez i L) w)
def XK (P:Program) (ops:Array Oper) (ds:List Nat) (T0:Array Value) (D:List Deferred) (J:(Nat->Bool)->World->Prop) (S:Nat->World->World->Prop) (Q:Exit->Act->World->Prop):Nat->EV->List Oper->Prop
 | _,_,[]=>True
 | i,E,[o]=>∀ w L,(∀ j,j<i->L j=true)->L i=false->J L w->lL w E (fun T=>if Region.wanted o (yielded ops T)=true then o.wp P ⟨T,D⟩ w (fun a' w'=>Q .normal a' w') Q else Q .normal ((⟨T,D⟩:Act).put o.dst undef) w) T0
 | i,E,o :: o2 :: l=>∃ V:PV,(∀ j v w w',j≠i->jv ops i j=true->V v w->S j w w'->V v w')/\J7 P ops ds T0 D J S Q E V i o/\XK P ops ds T0 D J S Q (i+1) ((i,o.dst,V) :: E) (o2 :: l)
theorem oA:∀ (es:List Edge),dX E T w es↔(∀ e∈es,Region.binds .any e=true->∀ d V,fO E e.on=some (some d,V)->V (T.getD d undef) w)
 | []=>⟨(fun _ e he=>by cases he),fun _=>trivial⟩
 | e :: es=>by
   unfold dX;by_cases hb:Region.binds .any e=true
   ·rw [if_pos hb];simp only [List.mem_cons,forall_eq_or_imp];split
    ·rename_i d V hl;rw [oA es];exact ⟨fun h=>⟨fun _ d' V' hl'=>by rw [hl] at hl';injection hl' with hl';injection hl' with e1 e2;injection e1 with e1;subst e1 e2;exact h.1,h.2⟩,fun h=>⟨h.1 hb d V hl,h.2⟩⟩
    ·rename_i hn;rw [oA es];exact ⟨fun h=>⟨fun _ d V hl=>absurd hl (hn d V),h⟩,fun h=>h.2⟩
   ·rw [if_neg hb,oA es];simp only [List.mem_cons,forall_eq_or_imp];exact ⟨fun h=>⟨fun hb'=>absurd hb' hb,h⟩,fun h=>h.2⟩
theorem oB {G G':Array Value->Prop}:∀ (E:EV),lL w E G T0->(∀ T,G T->G' T)->lL w E G' T0
 | [],h,k=>k _ h
 | (_,some d,V) :: E,h,k=>oB E (G:=fun T=>∀ v,V v w->G (T.setIfInBounds d v)) h fun T h v hv=>k _ (h v hv)
 | (_,none,_) :: E,h,k=>oB E (G:=G) h k
theorem xj {g d:Nat} {c:Bool} {V:PV} (hE:fO E g=some (some d,V)) (hE2:∀ k d V,fO E k=some (d,V)->(ops[k]?).bind (fun o=>o.dst)=d) (h:T.getD d undef=.bool c):yielded ops T g=some c:=by
 have hT:T[d]?=some (.bool c):=by
  rw [Array.getD_eq_getD_getElem?] at h;cases hx:T[d]? with
  | none=>rw [hx] at h;cases h
  | some x=>rw [hx] at h;rw [show x=_ from h]
 unfold yielded;rw [hE2 g _ _ hE];simp [hT]
theorem tC {g d:Nat} {c:Bool} (hE:fO E g=some (some d,fun v _=>v=.bool c)) (hin:o.after.any (fun e=>e.on==g&&Region.binds .any e)=true) (hd:∀ e∈o.after.toList,Region.binds .any e=true->∀ d V,fO E e.on=some (some d,V)->V (T.getD d undef) w):T.getD d undef=.bool c:=by
 simp only [Array.any_eq_true',Bool.and_eq_true,beq_iff_eq] at hin;obtain ⟨e,he,e1,e2⟩:=hin;subst e1;exact hd e (by simpa using he) e2 d _ hE
theorem Ca {g d:Nat} {b c:Bool} (hg:o.guard=some (g,b)) (hE:fO E g=some (some d,fun v _=>v=.bool c)) (hin:o.after.any (fun e=>e.on==g&&Region.binds .any e)=true) (hE2:∀ k d V,fO E k=some (d,V)->(ops[k]?).bind (fun o=>o.dst)=d) (hd:∀ e∈o.after.toList,Region.binds .any e=true->∀ d V,fO E e.on=some (some d,V)->V (T.getD d undef) w) (hc:c=b):Region.wanted o (yielded ops T)=true:=by
 unfold Region.wanted;rw [hg];simp only [xj hE hE2 (tC hE hin hd),hc,beq_self_eq_true]
theorem Cb {g d:Nat} {b c:Bool} (hg:o.guard=some (g,b)) (hE:fO E g=some (some d,fun v _=>v=.bool c)) (hin:o.after.any (fun e=>e.on==g&&Region.binds .any e)=true) (hE2:∀ k d V,fO E k=some (d,V)->(ops[k]?).bind (fun o=>o.dst)=d) (hd:∀ e∈o.after.toList,Region.binds .any e=true->∀ d V,fO E e.on=some (some d,V)->V (T.getD d undef) w) (h:Region.wanted o (yielded ops T)=true):c=b:=by
 unfold Region.wanted at h;rw [hg] at h;simpa [xj hE hE2 (tC hE hin hd)] using h
def Cs (V:Nat->PV):List Oper->EV
 | []=>[]
 | o :: l=>(l.length,o.dst,V l.length) :: Cs V l
theorem rk {V:Nat->PV}:∀ (r:List Oper) {k d V'},fO (Cs V r) k=some (d,V')->∃ o,r.reverse[k]?=some o/\d=o.dst/\V'=V k
 | [],k,d,V',hl=>by cases hl
 | o :: l,k,d,V',hl=>by
   unfold Cs fO at hl;rw [List.reverse_cons];split at hl
   ·rename_i hk;injection hl with hl;injection hl with e1 e2
    subst e1 e2 hk;exact ⟨o,by rw [List.getElem?_append_right Hb];simp,rfl,rfl⟩
   ·obtain ⟨o',g1,g2,g3⟩:=rk l hl;exact ⟨o',by rw [List.getElem?_append_left (List.getElem?_eq_some_iff.1 g1).1];exact g1,g2,g3⟩
theorem xm {V V2:Nat->PV}:∀ (r:List Oper),(∀ k,k<r.length->V2 k=V k)->Cs V2 r=Cs V r
 | [],_=>rfl
 | o :: l,he=>by unfold Cs;rw [he l.length Hb,xm l fun k hk=>he k (by simp;omega)]
theorem uO {V:Nat->PV} (f:Nat->Value):∀ (r:List Oper) {G:Array Value->Prop},lL w (Cs V r) G T0->(∀ k o d,r.reverse[k]?=some o->o.dst=some d->V k (f d) w)->G ((r.reverse.filterMap (fun o=>o.dst)).foldl (fun A d=>A.setIfInBounds d (f d)) T0)
 | [],G,h,_=>h
 | o :: l,G,h,hv=>by
   have hv':∀ k o d,l.reverse[k]?=some o->o.dst=some d->V k (f d) w:=fun k o' d ho hd=>hv k o' d (by rw [List.reverse_cons,List.getElem?_append_left (List.getElem?_eq_some_iff.1 ho).1];exact ho) hd;rw [List.reverse_cons,List.filterMap_append,List.foldl_append];unfold Cs at h;cases hd:o.dst with
   | none =>
     rw [hd] at h;have:=uO f l (G:=G) h hv';simpa [hd] using this
   | some d =>
     rw [hd] at h;have:=uO f l (G:=fun T=>∀ v,V l.length v w->G (T.setIfInBounds d v)) h hv';have h5:V l.length (f d) w:=hv l.length o d Hb hd;simpa [hd] using this _ h5
theorem XK.out {lall:List Oper} (hops:ops=lall.toArray) (hds:lall.dropLast.filterMap (fun o=>o.dst)=ds):∀ (l:List Oper) (i:Nat) (r:List Oper) (V:Nat->PV),XK P ops ds T0 D J S Q i (Cs V r) l->lall=r.reverse++l->r.length=i->∃ V2:Nat->PV,(∀ k,k<i->V2 k=V k)/\(∀ k,i<=k->∀ j v w w',j≠k->jv ops k j=true->V2 k v w->S j w w'->V2 k v w') /\
 (∀ k o,i<=k->lall[k]?=some o->k+1<lall.length->aa P ops T0 D V2 J (S k) Q k o)/\(l≠[]->∀ o,lall[lall.length-1]?=some o->bg P ops T0 D V2 J Q o)
 | [],i,r,V,_,hl,hr=>⟨fun k=>if k<i then V k else fun _ _=>True,fun _ h=>if_pos h,fun k h1 j v w w' _ _ h _=>by simp only [if_neg (show ¬ k<i by omega)],fun k o h1 _ h2=>by subst hl;simp at h2;omega,fun h=>absurd rfl h⟩
 | [o],i,r,V,h,hl,hr=>by
   have hlen:lall.length=i+1:=by rw [hl];simp [hr]
   refine ⟨fun k=>if k<i then V k else fun _ _=>True,fun _ h=>if_pos h,fun k h1 j v w w' _ _ h _=>by simp only [if_neg (show ¬ k<i by omega)],fun k o h1 _ h2=>Ha,fun _ o' ho'=>?_⟩;have:o'=o:=by
    rw [hlen,Nat.add_sub_cancel,hl,List.getElem?_append_right (by simp [hr])] at ho';simpa [hr] using ho'.symm
   subst this;intro T w L h1 h2 h3 h4 h5;obtain ⟨f,hf,hT⟩:=aH h1;have hsz:ops.size=i+1:=by rw [hops];simpa using hlen
   have hdl:ops.pop.toList=r.reverse:=by rw [hops,hl];simp
   have hx:=h w L (fun j hj=>h2 j Ha) (by rw [hsz] at h3;exact h3) h4;have:=uO f r hx (fun k o d ho hd=>by
    have hk:k<i:=by have:=(List.getElem?_eq_some_iff.1 ho).1;simpa [hr] using this
    have hv:=h5 k o Ha (by rw [hops,hl];simp [List.getElem?_append_left (List.getElem?_eq_some_iff.1 ho).1,ho]);unfold co at hv;rw [hd,if_pos hk] at hv;rw [hf d];exact hv)
   rw [hdl] at hT;rw [<- hT] at this;exact this
 | o :: o2 :: l,i,r,V,h,hl,hr=>by
   obtain ⟨V1,hst,hs,hrest⟩:=h;have hat:lall[i]?=some o:=by rw [hl,List.getElem?_append_right (by simp [hr])];simp [hr]
   obtain ⟨V2,g1,g2,g3,g4⟩:=XK.out hops hds (o2 :: l) (i+1) (o :: r) (fun k=>if k=i then V1 else V k) (by
    have e:Cs (fun k=>if k=i then V1 else V k) r=Cs V r:=xm r fun k hk=>if_neg Ha;unfold Cs;rw [e,if_pos hr,hr];exact hrest) (by rw [hl];simp) (by simp [hr])
   have hV:V2 i=V1:=by rw [g1 i Ha,if_pos rfl]
   refine ⟨V2,fun k hk=>by rw [g1 k Ha,if_neg Ha],fun k h1=>?_,fun k o' h1 ho h2=>?_,fun _=>g4 Hb⟩
   ·by_cases hk:k=i
    ·subst hk;rw [hV];exact hst
    ·exact g2 k Ha
   ·by_cases hk:k=i
    ·subst hk;rw [hat] at ho;injection ho with ho;subst ho
     intro T w L h1 h2 h3 h4 h5;rw [hV];refine hs T w L (fun k' d V' hl'=>?_) (fun s hs=>h1.2 s fun o' ho' hd=>?_) h2 h3 h4 ((oA _).2 fun e he hb d V' hl'=>?_)
     ·obtain ⟨o',q1,q2,q3⟩:=rk r hl';rw [hops,hl];simp [List.getElem?_append_left (List.getElem?_eq_some_iff.1 q1).1,q1,q2]
     ·refine hs s ?_ rfl;rw [<- hds];refine List.mem_filterMap.2 ⟨o',?_,hd⟩;rw [hops] at ho';simpa using ho'
     ·obtain ⟨o',q1,q2,q3⟩:=rk r hl';have hlt:e.on<k:=by have:=(List.getElem?_eq_some_iff.1 q1).1;simpa [hr] using this
      have:=h5 e (by simpa using he) hb o' (by rw [hops,hl];simp [List.getElem?_append_left (List.getElem?_eq_some_iff.1 q1).1,q1]);unfold co at this;rw [<- q2,g1 e.on Ha,if_neg Ha] at this;rw [q3];exact this
    ·exact g3 k o' Ha ho h2
theorem bW.of {step:Nat->Oper->Prop} {last:Oper->Prop}:∀ {l:List Oper} {i:Nat},(∀ j o,l[j]?=some o->j+1<l.length->step (i+j) o)->(∀ o,l[l.length-1]?=some o->last o)->bW step last i l
 | [],_,_,_=>trivial
 | [x],_,_,h=>h x rfl
 | x :: y :: rest,i,h1,h2=>⟨h1 0 x rfl Hb,bW.of (fun j o hj hl=>by
    have:=h1 (j+1) o (by simpa using hj) (by simpa using hl)
    rwa [show i+(j+1)=i+1+j by omega] at this) (fun o ho=>h2 o (by simpa using ho))⟩
theorem cU {id:Nat} (J:(Nat->Bool)->World->Prop) (S:Nat->World->World->Prop) (hJ:J (fun _=>false) w.drew) (h:XK P l.toArray ds T0 D J S Q 0 [] l) (hds:l.dropLast.filterMap (fun o=>o.dst)=ds:=by simp only [List.dropLast_cons_cons,List.dropLast_singleton,List.filterMap_cons,List.filterMap_nil];rfl) (hm:P.follows .mixedOrders=true:=by kernel_rfl) (hB:Gn T0.size l.toArray=true:=by kernel_rfl):(Code.region id l.toArray true).wp P Q ⟨T0,D⟩ w:=by
 have h0:=(py hB).1;obtain ⟨V2,_,g2,g3,g4⟩:=XK.out rfl hds l 0 [] (fun _ _ _=>True) h rfl rfl;exact aw V2 J S hm hB (fun i j v w w' hij hI hv hs=>g2 j (Nat.zero_le _) i v w w' hij hI hv hs) hJ (bW.of (fun j o hj hl=>by rw [Nat.zero_add];exact g3 j o (Nat.zero_le _) hj hl) (g4 (fun e=>by subst e;simp at h0)))
theorem XK.cst (x:Value) (hg:o.guard=none) (hj:∀ L w,J L w->J (Ez i L) w) (hS:∀ w,S i w w) (hs:∀ T w L,FR ds T0 T->J L w->dX E T w o.after.toList->(o.wp P ⟨T,D⟩ w (fun a' w'=>∃ v,a'=(⟨T,D⟩:Act).put o.dst v/\Ef x w (match o.dst with | some _=>v | none=>undef) w') Q)) (rest:XK P ops ds T0 D J S Q (i+1) ((i,o.dst,fun v _=>v=x) :: E) (o2 :: l)):XK P ops ds T0 D J S Q i E (o :: o2 :: l):=by
 refine ⟨fun v _=>v=x,fun j v w w' _ _ h _=>h,fun T w L _ h1 h2 h3 h4 h5=>?_,rest⟩;have h:=hs T w L h1 h3 h5;rw [if_pos (by unfold Region.wanted;rw [hg])];refine Oper.wp_mono (fun a' w' ⟨v,q1,q2,q3⟩=>?_) h;subst q3;exact ⟨v,q1,q2,hj _ _ h3,hS _⟩
theorem XK.cstw {g d:Nat} {b:Bool} (x:Value) (hg:o.guard=some (g,b)) (hE:fO E g=some (some d,fun v _=>v=.bool b)) (hin:o.after.any (fun e=>e.on==g&&Region.binds .any e)=true) (hj:∀ L w,J L w->J (Ez i L) w) (hS:∀ w,S i w w) (hs:∀ T w L,FR ds T0 T->J L w->dX E T w o.after.toList->(o.wp P ⟨T,D⟩ w (fun a' w'=>∃ v,a'=(⟨T,D⟩:Act).put o.dst v/\Ef x w (match o.dst with | some _=>v | none=>undef) w') Q)) (rest:XK P ops ds T0 D J S Q (i+1) ((i,o.dst,fun v _=>v=x) :: E) (o2 :: l)):XK P ops ds T0 D J S Q i E (o :: o2 :: l):=by
 refine ⟨fun v _=>v=x,fun j v w w' _ _ h _=>h,fun T w L hE2 h1 h2 h3 h4 h5=>?_,rest⟩;rw [if_pos (Ca hg hE hin hE2 ((oA _).1 h5) rfl)];refine Oper.wp_mono (fun a' w' ⟨v,q1,q2,q3⟩=>?_) (hs T w L h1 h3 h5);subst q3;exact ⟨v,q1,q2,hj _ _ h3,hS _⟩
theorem XK.skip {g d:Nat} {b c:Bool} (hg:o.guard=some (g,b)) (hE:fO E g=some (some d,fun v _=>v=.bool c)) (hc:c≠b) (hin:o.after.any (fun e=>e.on==g&&Region.binds .any e)=true) (hj:∀ L w,J L w->J (Ez i L) w) (rest:XK P ops ds T0 D J S Q (i+1) ((i,o.dst,fun _ _=>True) :: E) (o2 :: l)):XK P ops ds T0 D J S Q i E (o :: o2 :: l):=by
 refine ⟨fun _ _=>True,fun j v w w' _ _ h _=>h,fun T w L hE2 h1 h2 h3 h4 h5=>?_,rest⟩;rw [if_neg (fun h=>hc (Cb hg hE hin hE2 ((oA _).1 h5) h))];exact ⟨trivial,hj _ _ h3⟩
theorem XK.op (V:PV) (hst:∀ j v w w',j≠i->jv ops i j=true->V v w->S j w w'->V v w') (hs:∀ T w L,FR ds T0 T->L i=false->J L w->(∀ e∈o.after,Region.binds .any e=true->L e.on=true)->dX E T w o.after.toList->(o.wp P ⟨T,D⟩ w (fun a' w'=>∃ v,a'=(⟨T,D⟩:Act).put o.dst v/\V (match o.dst with | some _=>v | none=>undef) w'/\J (Ez i L) w'/\S i w w') Q)) (rest:XK P ops ds T0 D J S Q (i+1) ((i,o.dst,V) :: E) (o2 :: l)) (hg:o.guard=none:=by rfl):XK P ops ds T0 D J S Q i E (o :: o2 :: l):=by
 refine ⟨V,hst,fun T w L _ h1 h2 h3 h4 h5=>?_,rest⟩;have h:=hs T w L h1 h2 h3 h4 h5;rw [if_pos (by unfold Region.wanted;rw [hg])];exact h
theorem XK.last (hs:∀ w L,(∀ j,j<i->L j=true)->L i=false->J L w->lL w E (fun T=>o.wp P ⟨T,D⟩ w (fun a' w'=>Q .normal a' w') Q) T0) (hg:o.guard=none:=by rfl):XK P ops ds T0 D J S Q i E [o]:=fun w L h1 h2 h3=>by
 refine oB E (hs w L h1 h2 h3) fun T h=>?_;rw [if_pos (by unfold Region.wanted;rw [hg])];exact h
theorem XK.c {x:Value} (rest:XK P ops ds T0 D J S Q (i+1) ((i,o.dst,fun v _=>v=x) :: E) (o2 :: l)) (hg:o.guard=none:=by rfl) (hj:∀ L w,J L w->J (Ez i L) w:=by exact fun _ _ h=>h) (hS:∀ w,S i w w:=by exact srefl) (hs:∀ T w L,FR ds T0 T->J L w->dX E T w o.after.toList->(o.wp P ⟨T,D⟩ w (fun a' w'=>∃ v,a'=(⟨T,D⟩:Act).put o.dst v/\Ef x w (match o.dst with | some _=>v | none=>undef) w') Q):=by
 intro T w L hag hJ hd
 try dsimp only at hJ
 unfold FR at hag;simp only [dX,fO,Region.binds,List.toList_toArray,Nat.reduceEqDiff,↓reduceIte,reduceCtorEq] at hd;go_simp;exact ⟨_,rfl,rfl,rfl⟩):XK P ops ds T0 D J S Q i E (o :: o2 :: l):=.cst x hg hj hS hs rest
theorem XK.cw {g d:Nat} {b:Bool} {x:Value} (rest:XK P ops ds T0 D J S Q (i+1) ((i,o.dst,fun v _=>v=x) :: E) (o2 :: l)) (hg:o.guard=some (g,b):=by rfl) (hE:fO E g=some (some d,fun v _=>v=.bool b):=by rfl) (hin:o.after.any (fun e=>e.on==g&&Region.binds .any e)=true:=by kernel_rfl) (hj:∀ L w,J L w->J (Ez i L) w:=by exact fun _ _ h=>h) (hS:∀ w,S i w w:=by exact srefl) (hs:∀ T w L,FR ds T0 T->J L w->dX E T w o.after.toList->(o.wp P ⟨T,D⟩ w (fun a' w'=>∃ v,a'=(⟨T,D⟩:Act).put o.dst v/\Ef x w (match o.dst with | some _=>v | none=>undef) w') Q):=by
 intro T w L hag hJ hd
 try dsimp only at hJ
 unfold FR at hag;simp only [dX,fO,Region.binds,List.toList_toArray,Nat.reduceEqDiff,↓reduceIte,reduceCtorEq] at hd;go_simp;exact ⟨_,rfl,rfl,rfl⟩):XK P ops ds T0 D J S Q i E (o :: o2 :: l):=XK.cstw x hg hE hin hj hS hs rest
theorem XK.k {g d:Nat} {b c:Bool} (rest:XK P ops ds T0 D J S Q (i+1) ((i,o.dst,fun _ _=>True) :: E) (o2 :: l)) (hg:o.guard=some (g,b):=by rfl) (hE:fO E g=some (some d,fun v _=>v=.bool c):=by rfl) (hin:o.after.any (fun e=>e.on==g&&Region.binds .any e)=true:=by kernel_rfl) (hc:c≠b:=by decide) (hj:∀ L w,J L w->J (Ez i L) w:=by exact fun _ _ h=>h):XK P ops ds T0 D J S Q i E (o :: o2 :: l):=XK.skip hg hE hc hin hj rest
theorem XK.v (x:Value) (hs:∀ T w L,FR ds T0 T->J L w->dX E T w o.after.toList->(o.wp P ⟨T,D⟩ w (fun a' w'=>∃ v,a'=(⟨T,D⟩:Act).put o.dst v/\Ef x w (match o.dst with | some _=>v | none=>undef) w') Q)) (rest:XK P ops ds T0 D J S Q (i+1) ((i,o.dst,fun v _=>v=x) :: E) (o2 :: l)) (hg:o.guard=none:=by rfl) (hj:∀ L w,J L w->J (Ez i L) w:=by exact fun _ _ h=>h) (hS:∀ w,S i w w:=by exact srefl):XK P ops ds T0 D J S Q i E (o :: o2 :: l):=.cst x hg hj hS hs rest
end
theorem xr {G R:Prop} (k:R) (h:R->G:=by
 intro k
 repeat ((first | refine XK.c ?_ | refine XK.cw ?_ | refine XK.k ?_);dsimp only [Nat.reduceAdd])
 exact k):G:=h k
end Go.Proofs.YtegjelaejbacnaaGreat
