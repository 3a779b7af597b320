/- For FileLong: contracts and facts, part 11. -/
import Derived.Test.YtegjelaejbacnaaGreatL10
set_option maxRecDepth 100000
set_option maxHeartbeats 25600000
set_option linter.unusedVariables false
open Go.ChangeShapes Go.WideShapes Go.ChangeAt Go.RowKit
namespace Go.Proofs.YtegjelaejbacnaaGreat
def mv (X:Nat->List Int) (o:Nat) (x:HB):HB:=if x.lg then x else ⟨Gt (X o),iO (X o),false⟩
def dE (X:Nat->List Int):Nat->List HB->List HB
 | _,[]=>[]
 | o,x :: l=>mv X o x :: dE X (o+1) l
theorem fq (X:Nat->List Int):∀ (l:List HB) (o:Nat),(dE X o l).length=l.length
 | [],_=>rfl
 | x :: l,o=>by show (dE X (o+1) l).length+1=_;rw [fq X l];rfl
theorem pO (X:Nat->List Int):∀ (l:List HB) (o:Nat) (x:HB),dE X o (l++[x])=dE X o l++[mv X (o+l.length) x]
 | [],o,x=>rfl
 | y :: l,o,x=>by
   show mv X o y :: dE X (o+1) (l++[x])=_;rw [pO X l (o+1) x,List.length_cons,show o+1+l.length=o+(l.length+1) by omega];rfl
theorem ma (X:Nat->List Int):∀ (l:List HB) (o i:Nat),(dE X o l)[i]?=(l[i]?).map (mv X (o+i))
 | [],_,_=>rfl
 | x :: l,o,0=>rfl
 | x :: l,o,i+1=>by
   show (dE X (o+1) l)[i]?=_;rw [ma X l (o+1) i,show o+1+i=o+(i+1) by omega];rfl
def zG (X:Nat->List Int) (B:List HB) (k:Nat):List HB:=dE X 0 (B.take k)++B.drop k
theorem EC {X:Nat->List Int} {B:List HB} {k:Nat} {x:HB} (h:B[k]?=some x):(zG X B k)[k]?=some x:=by
 have a:=(List.getElem?_eq_some_iff.1 h).1;unfold zG;rw [List.getElem?_append_right (by rw [fq,List.length_take];omega),fq,List.length_take,List.getElem?_drop,show k+(k-min k B.length)=k by omega];exact h
theorem xF {X:Nat->List Int} {B:List HB} {k:Nat} {x:HB} (h:B[k]?=some x):zG X B (k+1)=(zG X B k).set k (mv X k x):=by
 have b:=(List.getElem?_eq_some_iff.1 h).1;have a:(dE X 0 (B.take k)).length=k:=by rw [fq,List.length_take];omega
 unfold zG;rw [aw h,pO,List.set_append_right _ _ Ha,a,Nat.sub_self,List.drop_eq_getElem_cons b,(List.getElem?_eq_some_iff.1 h).2,List.append_assoc,List.length_take,show 0+min k B.length=k by omega];rfl
theorem ED {X:Nat->List Int} {B:List HB} {k:Nat} {x:HB} (h:B[k]?=some x) (a:x.lg=true):zG X B (k+1)=zG X B k:=by
 rw [xF h];have:mv X k x=x:=by unfold mv;rw [if_pos a]
 rw [this];exact Bd (EC h)
theorem G8 {X:Nat->List Int} {B:List HB} {k:Nat} (h:B.length<=k):zG X B k=dE X 0 B:=by unfold zG;rw [List.take_of_length_le h,List.drop_of_length_le h,List.append_nil]
theorem aO.setK {W:World} {q hp rb:Nat} {v:VM} (h:aO W q hp rb v) (b:hp≠rb) {i:Nat} {x:HB} {k:Int} {bs:List Int} (c:v.B[i]?=some x) (g:0<=k/\k<=7) (a:bs.length=56) (l:ay bs):aO (W.setCells rb (i*58) (blkL k bs)) q hp rb { v with B:=v.B.set i ⟨k,bs,x.lg⟩ }:=by
 have e:=h.ok x (List.mem_of_getElem? c);have m:(rowL hbL v.B).length=v.n*58:=by rw [dN h.ok.fits,h.len]
 have d:=(List.getElem?_eq_some_iff.1 c).1;have f:(i+1)*58<=v.n*58:=Nat.mul_le_mul_right _ (by rw [<- h.len];exact d);refine { h with len:=by rw [List.length_set];exact h.len,ok:=h.ok.set ⟨g,a,l⟩,hd:=?_,row:=?_ }
 ·rw [dy b];exact h.hd
 ·rw [cM (blkL k bs) (i*58) _ W h.row (by rw [List.size_toArray,m,bf a];omega)];have:=iP (k:=i) (x:=x) (y:=⟨k,bs,x.lg⟩) (j:=0) (cs:=blkL k bs) h.ok.fits c (by rw [bf a];omega) (by
   unfold splice hbL;rw [bf a,List.drop_append,List.drop_of_length_le (by rw [bf e.len];omega),bf e.len];simp)
  rw [Nat.add_zero] at this;rw [List.toList_toArray,this]
theorem SV.setK {w0 W:World} {P:Nat->Prop} {q:Nat} {m:DM} {hp rb:Nat} {v:VM} (h:SV w0 W P q m hp rb v) {i:Nat} {x:HB} {k:Int} {bs:List Int} (b:v.B[i]?=some x) (c:0<=k/\k<=7) (a:bs.length=56) (d:ay bs) :
 SV w0 (W.setCells rb (i*58) (blkL k bs)) P q m hp rb { v with B:=v.B.set i ⟨k,bs,x.lg⟩ }/\bz (oW P hp rb) W (W.setCells rb (i*58) (blkL k bs)) :=
 h.own ((aE.refl _ _).setCells (F:=fun k=>k=hp\/k=rb) (Or.inr rfl) _ _) (h.at_.setK h.ne b c a d)
def Lz (hp rb n k:Nat) (a:Int) (bs:List Int) (i:Nat) (v:Value) (w:World):Prop :=
 match i with
 | 0 | 1=>v=.pointer (some ⟨hp,0,none⟩)
 | 2=>v=.pointer (some ⟨hp,8,none⟩)
 | 3=>v=.slice (some ⟨rb,0,none⟩) n n
 | 4=>v=.int .i64 (k:Int)
 | 5=>v=.agg (ab a bs)
 | 6 | 7=>v=.pointer (some ⟨rb,k*58,none⟩)
 | _=>True
def EE (w0 W:World) (P:Nat->Prop) (q:Nat) (m:DM) (hp rb:Nat) (v:VM) (X:Nat->List Int) (T:Act) (w':World):Prop :=
 ∃ k:Nat,k<=v.n/\Hid (SV w0 w' P q m hp rb { v with B:=zG X v.B k })/\Hid (bz (oW P hp rb) W w')/\∃ U V Y Z u8 u9 a b c d e f g h i j l o p r s t u w x y z A u32 C H I K L M N O R S:Value,T={ tmps:=#[.pointer (some ⟨hp,0,none⟩),undef,.bool false,.int .i64 k,U,V,Y,Z,u8,u9,a,b,c,d,e,f,g,h,i,j,l,o,p,r,s,t,u,w,x,y,z,A,u32,C,H,I,K,L,M,N,O,R,S],defers:=[] }
theorem zI {w0 WW:World} {P:Nat->Prop} {q:Nat} {m:DM} {hp rb:Nat} {v:VM} (h:SV w0 WW P q m hp rb v) (X:Nat->List Int) (M:∀ i,i<v.n->iY m v.r ((2+v.g+i:Nat):Int)=some (X i)/\cQ (X i)) (p:∀ (i:Nat) (x:HB),v.B[i]?=some x->x.lg=false->mC 0 i (X i)) :
 Calls Tryz.prog 100 #[.pointer (some ⟨hp,0,none⟩)] WW fun e w'=>e=.returned (.bool true)/\SV w0 w' P q m hp rb { v with B:=dE X 0 v.B }/\bz (oW P hp rb) WW w':=by
 have HV:=He h;have A:=He M;have b3:=He p;have a4:=He h.at_.len;have O:=He (And.intro h.at_.n h.at_.g);clear h M p;go_enter Tryz.func100,Tryz.ntmps100;go_wp2;refine bq (EE w0 WW P q m hp rb v X) (fun a' _=>v.n-(intOf (a'.tmps.getD 3 undef)).toNat) rfl ?_ ?_
 ·intro a5;have HF:=He a5;clear a5;go_wp2;go_step3;rename_i hK;exact hK _ _ (HF.out _ _ ⟨0,Nat.zero_le _,HV.out,bz.refl _ _,_,_,_,_,_,_,_,_,_,_,_,_,_,_,_,_,_,_,_,_,_,_,_,_,_,_,_,_,_,_,_,_,_,_,_,_,_,_,_,rfl⟩)
 ·rintro a' w5 ⟨a,hk,b,R,u4,u5,u6,u7,u8,u9,cs,cu,cv,cw,cx,cz,cA,cP,c0,c1,c2,c3,c4,c5,c6,c7,c9,da,dc,dg,dl,dn,u32,dv,dT,d1,d2,d3,d4,d5,d6,d7,d8,rfl⟩;have c8:w5.cell? ⟨hp,8,none⟩=some (.slice (some ⟨rb,0,none⟩) v.n v.n):=b.out.at_.c8;by_cases d9:a=v.n
  ·have hq:((a:Int)==v.n)=true:=by simp;omega
   have s:=b.out;rw [G8 (by rw [a4.out];omega)] at s;have HF:=He s;clear s;go_wp2;simp only [Exit.jump];go_ret;exact ⟨rfl,HF.out,R.out⟩
  ·have t:a<v.n:=Ha;have hq:((a:Int)==v.n)=false:=by simp;omega
   have b4:(a:Int)<v.n:=Ha;obtain ⟨x,hx⟩:∃ x,v.B[a]?=some x:=⟨_,List.getElem?_eq_getElem (by rw [a4.out];exact t)⟩
   have a6:Hid ((zG X v.B a)[a]?=some x):=EC hx;have zl:w5.cell? ⟨rb,a*58+57,none⟩=some (.bool x.lg):=b.out.at_.lg a6.out;have b5:=O.out.1;have u:Hid (a<v.n):=t;have HX:=He hx;clear hx;cases d:x.lg
   ·have p:=b3.out a x HX.out d;have S:Hid ((zG X v.B a).set a ⟨Gt (X a),iO (X a),x.lg⟩=zG X v.B (a+1)):=by
     unfold Hid;rw [xF HX.out];unfold mv;rw [if_neg (by rw [d];simp),d]
    have a7:pE 0 a (X a)=ab (Gt (X a)) (iO (X a)):=by unfold pE;rw [if_pos p]
    have U:=CF (b.out.ds.rd v.r b.out.at_.r) v.n v.g v.fr O.out.1 O.out.2 a t (X a) (A.out a t).1 (A.out a t).2;rw [a7,decide_eq_true p] at U;have a8:=He U;have y:=He (qN (A.out a t).2.1);have a9:=He (oQ (A.out a t).2.2);have bb:=He p.2.1.1;rw [d] at zl;clear p a7 U d;generalize Gt (X a)=V at *;generalize iO (X a)=bs at *;go_upto_region 5 with fail
    go_wp2_with (first | (with_reducible refine wpList_load_mid rfl 115 (.tmp 25) rfl hp 0 rfl (pK (some ⟨q,0,none⟩) v.r v.n v.g v.fr) _ b.out.at_.rangeG Tryz.underlying115 rfl (by rw [show (pK (some ⟨q,0,none⟩) v.r v.n v.g v.fr).length=8 from rfl];exact oU) ?_))
    refine a8.out.mono ?_;rintro e z ⟨rfl,Y⟩;have bi:=b.out.below Y;have bl:=R.out.trans (bz.rst (b.out.same Y));have bn:=He bi;have b6:=He bl;clear Y bi bl c8 zl a8;go_upto_region 6 with (first | (refine aq rfl rfl ?_) | (refine ap rfl (.tmp 4) (.tmp 29) rfl z.heap.size rfl V 0 bs az rfl y.out ak (heap_alloc_new z _) ?_))
    have Z:Below z.heap.size z ((z.alloc (Obj.cells (ab 0 az) 37)).setRow z.heap.size (ab V bs)):=below_setRow ((Below.refl _ _).alloc (Nat.le_refl _) _) (Nat.le_refl _) _;have e4:=am (D:=ab V bs) (heap_alloc_new z (Obj.cells (ab 0 az) 37));have C:=He (bn.out.below Z);have b8:=He (b6.out.trans (bz.rst (bn.out.same Z)));generalize (z.alloc (Obj.cells (ab 0 az) 37)).setRow z.heap.size (ab V bs)=W5 at *;generalize z.heap.size=g4 at *;have b9:=He (fun (W':World) (ca:Below W5.heap.size W5 W')=>kb ca e4);obtain ⟨nn,H⟩:∃ nn,nn=v.n:=⟨_,rfl⟩
    have cb:Hid (∀ W',Below W5.heap.size W5 W'->W'.cell? ⟨hp,8,none⟩=some (.slice (some ⟨rb,0,none⟩) nn nn)):=fun W' hb=>by rw [H];exact (C.out.at_.below hb).c8
    have ea:(a:Int)<nn:=by rw [H];exact b4
    have cr:nn<=200:=by rw [H];exact b5
    clear Z e4 H;go_upto_region 8 with fail
    refine ax (Lz hp rb nn a V bs) (fun _ W=>Below W5.heap.size W5 W) (fun _ w w'=>Below w.heap.size w w') Hc Hc (fun i j v w w' _ _ h hs=>by unfold Lz at *;exact h) ((Below.refl _ _).drew) ?_;simp only [cf];refine ⟨?_,?_,?_,?_,?_,?_,?_,?_,?_⟩
    ·refine aa.of rfl fun T W L hag N hJ l hd=>?_;have e0:=Hf hag 0;exact Hh
    ·refine aa.of rfl fun T W L hag N hJ l hd=>?_;have ad:T.getD 33 undef=_:=Hg hd 0 rfl;exact Hh
    ·refine aa.of rfl fun T W L hag N hJ l hd=>?_;have an:T.getD 34 undef=_:=Hg hd 1 rfl;exact Hh
    ·refine aa.of rfl fun T W L hag N hJ l hd=>?_;have a0:T.getD 35 undef=_:=Hg hd 2 rfl;have z8:=cb.out W hJ;exact Hh
    ·refine aa.of rfl fun T W L hag N hJ l hd=>?_;have e3:=Hf hag 3;exact Hh
    ·refine aa.of rfl fun T W L hag N hJ l hd=>?_;have e4:=Hf hag 4;clear hag hd;refine wp_load_row 37 (.tmp 4) rfl g4 e4 _ _ _ _ (b9.out W hJ) Tryz.underlying37 rfl (by rw [aP y.out];exact db) ?_;exact ⟨_,rfl,rfl,hJ,ag _⟩
    ·refine aa.of rfl fun T W L hag N hJ l hd=>?_;have a1:T.getD 36 undef=_:=Hg hd 3 rfl;have a2:T.getD 37 undef=_:=Hg hd 4 rfl;exact Hh
    ·refine aa.of rfl fun T W L hag N hJ l hd=>?_;have a3:T.getD 39 undef=_:=Hg hd 6 rfl;exact Hh
    ·refine bm.of rfl fun T W L hag l N hJ hd=>?_;have bt:T.getD 40 undef=_:=hd 7 _ Hb rfl;have bx:T.getD 38 undef=_:=hd 5 _ Hb rfl;obtain ⟨f,I,hT⟩:=aJ hag;have ad:T.getD 33 undef=_:=hd 0 _ Hb rfl;have cc:=(I 33).trans ad;have an:T.getD 34 undef=_:=hd 1 _ Hb rfl;have cg:=(I 34).trans an;have a0:T.getD 35 undef=_:=hd 2 _ Hb rfl;have ch:=(I 35).trans a0;have a1:T.getD 36 undef=_:=hd 3 _ Hb rfl;have ci:=(I 36).trans a1;have a2:T.getD 37 undef=_:=hd 4 _ Hb rfl;have ck:=(I 37).trans a2;have cl:=(I 38).trans bx;have a3:T.getD 39 undef=_:=hd 6 _ Hb rfl;have cn:=(I 39).trans a3;have cp:=(I 40).trans bt;have HJ:=He hJ;clear hag hd ad an a0 a1 a2 bx a3 bt hJ I;rw [hT];clear hT;simp only [List.pop_toArray,List.dropLast_cons_cons,List.dropLast_singleton,List.filterMap_cons,List.filterMap_nil,List.foldl_cons,List.foldl_nil,List.setIfInBounds_toArray,List.set_cons_succ,List.set_cons_zero,cc,cg,ch,ci,ck,cl,cn,cp];have b0:=(C.out.at_.below HJ.out).there (i:=a) (o:=0) (c:=57) u.out Ha;refine wp_store_mid 37 (.tmp 40) (.tmp 38) rfl rb (a*58) _ rfl rfl (by rw [aP y.out];exact b0) (by rw [aP y.out];exact db) (ke _ _) ?_;rw [bu];have K:=(C.out.below HJ.out).setK (k:=V) (bs:=bs) a6.out bb.out y.out a9.out;have b1:=(b8.out.trans (bz.rst (C.out.same HJ.out))).trans K.2;rw [S.out] at K;have cq:=He K.1;have b2:=He b1;clear K b1 b0 HJ;generalize W.setCells rb (a*58) (blkL V bs)=W7 at *;simp only [Act.put];go_wp2;go_step3;refine ⟨rfl,(show EE w0 WW P q m hp rb v X _ W7 from ⟨a+1,by have:=u.out;omega,cq.out,b2.out,_,_,_,_,_,_,_,_,_,_,_,_,_,_,_,_,_,_,_,_,_,_,_,_,_,_,_,_,_,_,_,_,_,_,_,_,_,_,_,(by rw [show ((a+1:Nat):Int)=(a:Int)+1 from rfl])⟩),?_⟩;have:=u.out;simp [intOf];omega
   ·have S:Hid (zG X v.B (a+1)=zG X v.B a):=ED HX.out d;have s:=b.out;rw [<- S.out] at s;have HF:=He s;rw [d] at zl;clear s d;go_wp2;go_step3;refine ⟨rfl,(show EE w0 WW P q m hp rb v X _ w5 from ⟨a+1,by have:=u.out;omega,HF.out,R.out,_,_,_,_,_,_,_,_,_,_,_,_,_,_,_,_,_,_,_,_,_,_,_,_,_,_,_,_,_,_,_,_,_,_,_,_,_,_,_,(by rw [show ((a+1:Nat):Int)=(a:Int)+1 from rfl])⟩),?_⟩;have:=u.out;simp [intOf];omega
def zH:HB:=⟨0,az,false⟩
theorem Jq:zH.Ok:=⟨by show (0:Int)<=0/\(0:Int)<=7;omega,ak,fc⟩
def Jr (r a:Int) (n g:Nat):VM:=⟨r,a,n,g,List.replicate n zH,0,0,0⟩
theorem G9 (q rb:Nat) (r a:Int) (n g:Nat):Tryz.prog.built 118 [(0,.agg (bJ (some ⟨q,0,none⟩) r n g a)),(1,.slice (some ⟨rb,0,none⟩) n n)]=some (sR q rb (Jr r a n g)):=Hc
theorem J5 (n:Nat):madeCells (Value.agg (hbL zH).toArray).cells (n*58)=(rowL hbL (List.replicate n zH)).toArray:=by
 have b:lu hbL 58 (List.replicate n zH):=fun x e=>by rw [List.eq_of_mem_replicate e];exact gW ak
 apply Array.toList_inj.1;rw [List.toList_toArray];apply List.ext_getElem?;intro j;by_cases hj:j<n*58
 ·have f:(madeCells (Value.agg (hbL zH).toArray).cells (n*58)).toList[j]?=some ((hbL zH).toArray[j%(hbL zH).toArray.size]!):=by simp [madeCells,hj,Value.cells]
  have a:(hbL zH).toArray.size=58:=by rw [List.size_toArray];exact gW ak
  have g:j%58<58:=Nat.mod_lt _ Ha;have h:j/58<n:=Nat.div_lt_of_lt_mul Ha;obtain ⟨u,c⟩:∃ u,(hbL zH)[j%58]?=some u:=⟨_,List.getElem?_eq_getElem (by rw [gW ak];exact g)⟩
  have d:=nX b (i:=j/58) (x:=zH) (by rw [List.getElem?_replicate,if_pos h]) c;rw [show j/58*58+j%58=j by omega] at d;rw [f,a,d]
  congr 1
  rw [getElem!_def,List.getElem?_toArray,c]
 ·rw [List.getElem?_eq_none (by rw [Array.length_toList,size_madeCells];omega),List.getElem?_eq_none (by rw [dN b,List.length_replicate];omega)]
def LA (q c n g base:Nat) (r b:Int) (i:Nat) (v:Value) (w:World):Prop :=
 match i with
 | 0=>v=.agg (bJ (some ⟨q,0,none⟩) r n g b)
 | 1=>v=.pointer (some ⟨c,2,none⟩)
 | 2=>v=.int .i64 n
 | 3=>∃ rb,v=.slice (some ⟨rb,0,none⟩) n n/\w.heap[rb]?=some (.cells (rowL hbL (List.replicate n zH)).toArray 113 (0,0))/\base<=rb
 | 4=>∃ rb,v=.agg (sR q rb (Jr r b n g))/\w.heap[rb]?=some (.cells (rowL hbL (List.replicate n zH)).toArray 113 (0,0))/\base<=rb
 | 5=>∃ a rb,v=.pointer (some ⟨a,0,none⟩)/\w.heap[a]?=some (.cells (sR q rb (Jr r b n g)) 118 (0,0))/\w.heap[rb]?=some (.cells (rowL hbL (List.replicate n zH)).toArray 113 (0,0))/\base<=rb/\base<=a/\a≠rb
 | _=>True
theorem zJ {w0 W:World} {P:Nat->Prop} {q:Nat} {m:DM} (h:DS w0 W P q m) (r:Int) (hr:i64 r) (n g:Nat) (a:Int) (hn:n<=200) (hg:g<=1000) (e:Nat) (bi:epN (iY m r) 2=(e,true)) (he:e+1<4294967296) (N:∀ i b,iY m r i=some b->cQ b)
 (LG:List (List Int)) (H:LG.length=g) (O:∀ i b,LG[i]?=some b->iY m r ((2+i:Nat):Int)=some b) (bk:∀ b∈LG,cQ b)
 (Rs:List (List Wr)) (rest:List (List Int)) (bl:∀ l∈Rs,bQ l/\bW l) (c:LG=aL e 0 Rs++rest) (bn:¬ ge 0 e Rs.length rest) (bs:Rs.length<=1000000)
 (X:Nat->List Int) (hX:∀ i,i<n->iY m r ((2+g+i:Nat):Int)=some (X i)/\cQ (X i)) (bt:∀ (i:Nat) (x:HB),(cY (List.replicate n zH) Rs.flatten)[i]?=some x->x.lg=false->mC 0 i (X i)) (R:m.done.length<=999000) :
 Calls Tryz.prog 43 #[.pointer (some ⟨q,0,none⟩),.int .i64 r,qq 0 0 n g a] W fun en w'=>∃ hp rb,en=.returned (.tuple #[.pointer (some ⟨hp,0,none⟩),.int .i64 0]) /\
  SV w0 w' (fun k=>P k\/k=hp\/k=rb) q (fE m ⟨r,a,n,g,dE X 0 (cY (List.replicate n zH) Rs.flatten),e,0,0⟩) hp rb (gX ⟨r,a,n,g,dE X 0 (cY (List.replicate n zH) Rs.flatten),e,0,0⟩)/\bz P W w'/\W.heap.size<=hp/\W.heap.size<=rb:=by
 obtain ⟨y,rfl⟩:∃ y,y=W:=⟨W,rfl⟩
 have HD:=He h;have HR:=He hr;have bx:=He (And.intro hn hg);have c3:=He R;have c4:=He (fun W=>nV (some ⟨q,0,none⟩) r n g a hn hg W);have z:∀ o,Below y.heap.size y (y.alloc o):=fun o=>(Below.refl _ _).alloc (Nat.le_refl _) _;have e5:=fun o=>heap_alloc_new y o;have c5:=He bi;have HE:=He he;have c6:=He N;have c7:=He (And.intro H (And.intro O (And.intro bk (And.intro bl (And.intro c (And.intro bn bs))))));have b0:=He (And.intro hX bt);obtain ⟨i0,b1,b2,b3,b4⟩:=info_parts Ew;have a1:=fun w:World=>run_make (P:=Tryz.prog) w 116 113 i0 _ Tryz.underlying116 b1 b2 .i64 .i64 (n:Int) (n:Int) Ha Ha (by rw [b4];omega) Ha;rw [Int.toNat_natCast,b3,show (hbL ⟨0,az,false⟩)=hbL zH from rfl,J5] at a1;have b5:=He a1;unfold qq;clear h R bi he N H O bk bl c bn bs hX bt b1 b2 b3 b4 a1;go_enter Tryz.func43,Tryz.ntmps43;go_wp2;go_step3;go_wp2_with fail
 have c8:=He (z (Obj.cells #[.int .i64 0,.int .i64 0,.int .i64 n,.int .i64 g,.int .i64 a] 97));have b6:=e5 (Obj.cells #[.int .i64 0,.int .i64 0,.int .i64 n,.int .i64 g,.int .i64 a] 97);refine (c4.out _).mono ?_;rintro en d ⟨rfl,t⟩;have a2:=kb t b6;have da:=He (aR c8.out t);clear z t e5 b6;unfold ko;go_upto_region 3 with (refine jX rfl (.tmp 9) (.tmp 16) rfl d.heap.size rfl (bJ (some ⟨q,0,none⟩) r n g a) rfl (q9 _ _ _ _ _) rfl _ rfl (heap_alloc_new d _) ?_)
 have e7:=am (D:=bJ (some ⟨q,0,none⟩) r n g a) (heap_alloc_new d (Obj.cells #[.pointer none,.int .i64 0,.int .u8 0,.int .i64 0,.int .i64 0,.int .i64 0,.int .i64 0,.int .i64 0] 115));have a3:Below d.heap.size d ((d.alloc (Obj.cells #[.pointer none,.int .i64 0,.int .u8 0,.int .i64 0,.int .i64 0,.int .i64 0,.int .i64 0,.int .i64 0] 115)).setRow d.heap.size (bJ (some ⟨q,0,none⟩) r n g a)):=below_setRow ((Below.refl _ _).alloc (Nat.le_refl _) _) (Nat.le_refl _) _;have b8:=He (aR da.out a3);have e5:=kb a3 a2;have S:y.heap.size<d.heap.size:=ah a2;have U:d.heap.size<((d.alloc (Obj.cells #[.pointer none,.int .i64 0,.int .u8 0,.int .i64 0,.int .i64 0,.int .i64 0,.int .i64 0,.int .i64 0] 115)).setRow d.heap.size (bJ (some ⟨q,0,none⟩) r n g a)).heap.size:=ah e7;generalize (d.alloc (Obj.cells #[.pointer none,.int .i64 0,.int .u8 0,.int .i64 0,.int .i64 0,.int .i64 0,.int .i64 0,.int .i64 0] 115)).setRow d.heap.size (bJ (some ⟨q,0,none⟩) r n g a)=W3 at *;generalize d.heap.size=g9 at *;clear a3;have d4:=He (And.intro S U);have HG:=He (fun (W':World) (a4:Below W3.heap.size W3 W')=>kb a4 e7);have a5:Hid (∀ W',Below W3.heap.size W3 W'->W'.cell? ⟨y.heap.size,2,none⟩=some (.int .i64 n)):=fun W' a4=>(af (kb a4 e5) 2).trans rfl;clear e7 e5 a2 S U;go_upto_region 4 with fail
 refine ax (LA q y.heap.size n g W3.heap.size r a) (fun _ W=>Below W3.heap.size W3 W) (fun _ w w'=>Below w.heap.size w w') Hc Hc (fun i j v w w' _ _ h V=>by revert h;unfold LA;split <;> intro h <;> first | exact h | (obtain ⟨p,h1,h2,h3⟩:=h;exact ⟨p,h1,kb V h2,h3⟩) | (obtain ⟨p,p2,h1,h2,h3,h4⟩:=h;exact ⟨p,p2,h1,kb V h2,kb V h3,h4⟩) | trivial) ((Below.refl _ _).drew) ?_;simp only [cf];refine ⟨?_,?_,?_,?_,?_,?_,?_⟩
 ·refine aa.of rfl fun T W L hag H hJ c hd=>?_;have e9:=Hf hag 9;obtain ⟨z0,z1,z2,z3,z4,z5,z6,z7⟩:=bj (HG.out W hJ);have y2:=a5.out W hJ;exact Hh
 ·refine aa.of rfl fun T W L hag H hJ c hd=>?_;have e5:=Hf hag 5;exact Hh
 ·refine aa.of rfl fun T W L hag H hJ c hd=>?_;have a6:T.getD 21 undef=_:=Hg hd 1 rfl;obtain ⟨z0,z1,z2,z3,z4,z5,z6,z7⟩:=bj (HG.out W hJ);have y2:=a5.out W hJ;exact Hh
 ·refine aa.of rfl fun T W L hag H hJ c hd=>?_;have I:T.getD 22 undef=_:=Hg hd 2 rfl;have b9:(⟨T,[]⟩:Act).eval (.tmp 22)=.int .i64 n:=I;clear hag hd;refine jT (v:=.slice (some ⟨W.heap.size,0,none⟩) n n) (w':=W.alloc (.cells (rowL hbL (List.replicate n zH)).toArray 113)) ?_ ⟨_,rfl,⟨_,rfl,heap_alloc_new W _,hJ.size⟩,hJ.alloc hJ.size _,(ag W).alloc (Nat.le_refl _) _⟩;have hm:=b5.out W;unfold execOp;simp only [b9,Sem.run_bind,hm,Result.andThen_ok,Sem.run_pure]
 ·refine aa.of rfl fun T W L hag H hJ c hd=>?_;have K:T.getD 20 undef=_:=Hg hd 0 rfl;have dc:=Hg hd 3 rfl;obtain ⟨rb,(V:T.getD 23 undef=_),hp,hbs⟩:=dc;have ca:(⟨T,[]⟩:Act).eval (.tmp 20)=.agg (bJ (some ⟨q,0,none⟩) r n g a):=K;have cb:(⟨T,[]⟩:Act).eval (.tmp 23)=.slice (some ⟨rb,0,none⟩) n n:=V;clear hag hd;have hb:=run_build (P:=Tryz.prog) W 118 #[(0,.agg (bJ (some ⟨q,0,none⟩) r n g a)),(1,.slice (some ⟨rb,0,none⟩) n n)] _ (G9 q rb r a n g);refine jT (v:=.agg (sR q rb (Jr r a n g))) (w':=W) ?_ ⟨_,rfl,⟨_,rfl,hp,hbs⟩,hJ,ag _⟩;unfold execOp;simp only [List.map_toArray,List.map_cons,List.map_nil,ca,cb,Sem.run_bind,hb,Result.andThen_ok,Sem.run_pure]
 ·refine aa.of rfl fun T W L hag H hJ c hd=>?_;have dg:=Hg hd 4 rfl;obtain ⟨rb,(V:T.getD 24 undef=_),hp,hbs⟩:=dg;clear hag hd;go_simp;exact ⟨_,rfl,⟨W.heap.size,rb,rfl,heap_alloc_new W _,kb ((ag W).alloc (Nat.le_refl _) _) hp,hbs,hJ.size,by have:=ah hp;omega⟩,hJ.alloc hJ.size _,(ag W).alloc (Nat.le_refl _) _⟩
 ·refine bm.of rfl fun T W L hag c H hJ hd=>?_;have dl:=hd 5 _ Hb rfl;obtain ⟨f,hf,hT⟩:=aJ hag;have K:T.getD 20 undef=_:=hd 0 _ Hb rfl;have dn:=(hf 20).trans K;have a6:T.getD 21 undef=_:=hd 1 _ Hb rfl;have dv:=(hf 21).trans a6;have I:T.getD 22 undef=_:=hd 2 _ Hb rfl;have dT:=(hf 22).trans I;have HJ:=He hJ;obtain ⟨hp,rb,(hv:T.getD 25 undef=_),hh1,hh2,z,t,hne⟩:=dl;have d1:=(hf 25).trans hv;have A:=He (And.intro hh1 (And.intro hh2 (And.intro z (And.intro t hne))));clear hv hh1 hh2 z t hne;clear hag hd K a6 I hJ hf;rw [hT];clear hT;simp only [List.pop_toArray,List.dropLast_cons_cons,List.dropLast_singleton,List.filterMap_cons,List.filterMap_nil,List.foldl_cons,List.foldl_nil,List.setIfInBounds_toArray,List.set_cons_succ,List.set_cons_zero,dn,dv,dT];simp only [d1];have a7:=He (aR b8.out HJ.out);have cc:=ah A.out.1;have cg:=ah A.out.2.1;have d2:=b8.out.size;have d3:=HD.out.bel.size;have ch:DS w0 W (fun k=>P k\/k=hp\/k=rb) q m:=HD.out.below a7.out (fun k Y=>by
   rcases Y with Y | rfl | rfl
   ·exact Or.inl Y
   ·exact Or.inr ⟨by have:=A.out.2.2.2.1;omega,cc⟩
   ·exact Or.inr ⟨by have:=A.out.2.2.1;omega,cg⟩)
  have ci:aO W q hp rb (Jr r a n g):={ len:=List.length_replicate,ok:=(fun x hx=>by rw [List.eq_of_mem_replicate hx];exact Jq),n:=bx.out.1,g:=bx.out.2,r:=HR.out,ep:=(by show (0:Nat)<4294967296;omega),sq:=(by show (0:Nat)<4294967296;omega),us:=(by show (0:Nat)<=2000;omega),hd:=A.out.1,row:=A.out.2.1 }
  have Z:SV w0 W (fun k=>P k\/k=hp\/k=rb) q m hp rb (Jr r a n g):={ ds:=ch,at_:=ci,ph:=Or.inr (Or.inl rfl),pr:=Or.inr (Or.inr rfl),lh:=(by have:=A.out.2.2.2.1;omega),lr:=(by have:=A.out.2.2.1;omega),ne:=A.out.2.2.2.2 }
  have ck:=He Z;have cl:=He (HD.out.same a7.out);have M:Hid (y.heap.size<=hp/\y.heap.size<=rb):=⟨by have:=A.out.2.2.2.1;omega,by have:=A.out.2.2.1;omega⟩
  have s:Hid (∀ k,P k->oW (fun k=>P k\/k=hp\/k=rb) hp rb k):=fun k Y=>by
   have:=HD.out.low k Y;have h1:=M.out.1;have h2:=M.out.2;exact ⟨Or.inl Y,Ha,Ha⟩
  have cn:=HG.out W HJ.out;have B:=zE ((HD.out.rd r HR.out).keep a7.out) c6.out n g a;rw [c5.out] at B;have ad:=He B;clear cc cg d2 d3 ch ci Z B HJ HG a5 b5;go_wp2_with (refine ja rfl (.tmp 9) rfl g9 rfl (bJ (some ⟨q,0,none⟩) r n g a) rfl cn ?_)
  refine ad.out.mono ?_;rintro en W6 ⟨rfl,a8⟩;have C:=ck.out.below a8;have a9:=C.setHd (i:=9) (u:=.int .u32 e) (v':={ Jr r a n g with ep:=e }) rfl rfl { C.at_.toOk with ep:=(by show e<4294967296;have:=HE.out;omega) };have z9:W6.cell? ⟨hp,9,none⟩=some (.int .u32 0):=C.at_.c9;have y9:=C.at_.f 9;have cp:=He a9.1;have cq:=He ((cl.out.trans ((ck.out.same a8).mono fun k Y=>Or.inl Y)).trans (a9.2.mono s.out));clear cn C a9 a8 ad;obtain ⟨h1,h2,h3,h4,h5,h6,h7⟩:=c7.out;have cr:=fun W (V:SV w0 W (fun k=>P k\/k=hp\/k=rb) q m hp rb { Jr r a n g with ep:=e })=>xE V LG h1 h2 h3 Rs rest h4 h5 h6 h7;have cs:=He cr;clear cr h1 h2 h3 h4 h5 h6 h7;go_upto_region 6 with fail
  generalize W6.setCell ⟨hp,9,none⟩ (.int .u32 e)=W7 at *;clear z9 y9;go_wp2_with fail
  refine (cs.out W7 cp.out).mono ?_;rintro en W8 ⟨rfl,cu,cv⟩;have cw:=zI cu X b0.out.1 b0.out.2;have cx:=He cw;have cz:=He (cq.out.trans (cv.mono s.out));clear cu cv cw cs cp;go_wp2_with fail
  refine cx.out.mono ?_;rintro en W9 ⟨rfl,cA,cP⟩;have c0:=pM cA HE.out c3.out;have c1:=He c0;have c2:=He (cz.out.trans (cP.mono s.out));clear cA cP c0 cx;go_wp2_with fail
  refine c1.out.mono ?_;rintro en d5 ⟨rfl,an,a0⟩;have HF:=He an;have bb:=He (c2.out.trans (a0.mono s.out));clear an a0 c1;go_wp2
  try rw [Exit.noGoto_ret]
  go_ret2
  exact ⟨hp,rb,rfl,HF.out,bb.out,M.out.1,M.out.2⟩
def K0 (b:List Int):List Int:=(b.drop 56).take 2
def CL:List Int:=List.replicate 64 0
theorem Ia (b:List Int):K0 b=((b.take 60).drop 56).take 2:=by
 unfold K0;rw [List.drop_take,List.take_take];rfl
theorem Bh {xs:List Int} (h:xs.length<=60):K0 (df xs)=((de xs).drop 56).take 2:=by rw [Ia,kn h]
theorem Ib (e s:Nat) {l:List Wr} (a:bQ l):K0 (df (bO 0 e s l))=[0,0]:=by
 have b:(bO 0 e s l).length<=47:=by rw [cH];have:=a.1.2;omega
 rw [Bh Ha];unfold de;rw [List.drop_append,List.drop_of_length_le Ha,List.nil_append,List.drop_replicate,List.take_replicate];rw [show min 2 (60-(bO 0 e s l).length-(56-(bO 0 e s l).length))=2 by omega];rfl
theorem Ic (e s:Nat) {bs:List Int} (h:bs.length=56):K0 (df (gc e s bs))=be e 2:=by
 have a:(gc e s bs).length=60:=gS h;rw [Bh Ha];unfold de;rw [a,show 60-60=0 from rfl,List.replicate_zero,List.append_nil];unfold gc;rw [List.append_assoc,<- h,List.drop_left,List.take_append_of_le_length (by rw [au];exact Nat.le_refl _),List.take_of_length_le (by rw [au];exact Nat.le_refl _)]
theorem EF {e:Nat} (h:e<65536) (a:be e 2=[0,0]):e=0:=AJ h Ha (a.trans rfl)
theorem Ie {e a s g:Nat} {l i:List Wr} (c:bQ l) (d:bQ i) (m:e<4294967296) (f:a<4294967296) (h:df (bO 0 e s l)=df (bO 0 a g i)):e=a:=by
 have j:∀ (e s:Nat) {l:List Wr},bQ l->(((df (bO 0 e s l)).take 60).drop 2).take 4=be e 4:=fun e s l c=>by
  have n:(bO 0 e s l).length<=60:=by rw [cH];have:=c.1.2;omega
  rw [kn n];unfold de bO kl;simp only [List.append_assoc,List.cons_append,List.nil_append,List.drop_succ_cons,List.drop_zero];rw [List.take_append_of_le_length (by rw [au];exact Nat.le_refl _),List.take_of_length_le (by rw [au];exact Nat.le_refl _)]
 have k:=congrArg (fun b:List Int=>((b.take 60).drop 2).take 4) h;simp only [j e s c,j a g d] at k;exact uY m f k
theorem zK (e s:Nat) {l:List Wr} (a:bQ l):(df (bO 0 e s l))[0]?=some 72:=by
 rw [Bc a Ha];rfl
def EG (e:Nat) (b:List Int):Prop:=(∃ s l,bQ l/\b=df (bO 0 e s l))\/∃ s a,a.length=56/\b=df (gc e s a)
def Bi (e:Nat) (b:List Int):Prop:=b=CL\/∃ a,1<=a/\a<e/\EG a b
theorem Bi.mono {e a:Nat} {b:List Int} (h:Bi e b) (g:e<=a):Bi a b:=by
 rcases h with h | ⟨c,d,i,f⟩
 ·exact Or.inl h
 ·exact Or.inr ⟨c,d,Ha,f⟩
theorem EG.old {e:Nat} {b:List Int} (h:EG e b) (a:1<=e):Bi (e+1) b:=Or.inr ⟨e,a,Ha,h⟩
theorem Bi.head {e s:Nat} {l:List Wr} (j:e<65536) (b:bQ l) (h:Bi e (df (bO 0 e s l))):False:=by
 rcases h with h | ⟨i,k,m,⟨g,n,c,d⟩ | ⟨g,o,f,d⟩⟩
 ·have a:=zK e s b;rw [h] at a;exact absurd a Hd
 ·have:=Ie b c Ha Ha d;omega
 ·have a:=congrArg K0 d;rw [Ib e s b,Ic i g f] at a;have:=EF Ha a.symm;omega
theorem tT {e s:Nat} {l:List Wr} (d:bQ l) (b:bW l) {c:List Int} (a:c∈putL 0 e s l):EG e c:=by
 unfold putL at a;rcases List.mem_cons.1 a with rfl | a
 ·exact Or.inl ⟨s,l,d,rfl⟩
 ·obtain ⟨x,f,rfl⟩:=List.mem_map.1 a;exact Or.inr ⟨s,x.bs,(b x f).len,rfl⟩
theorem xG {e s:Nat} {rest:List (List Int)} (h:ge 0 e s rest):∃ a,bQ a/\a.length=pG rest/\(∀ x∈a,x.bs.length=56)/\∀ i,i<1+pG rest->rest[i]?=(putL 0 e s a)[i]?:=by
 obtain ⟨g,c,d⟩:=h;refine ⟨ff rest (pG rest),c,bY _ _,fun x b=>?_,fun i f=>?_⟩
 ·unfold ff at b;obtain ⟨j,_,rfl⟩:=List.mem_map.1 b;exact ll _
 ·rw [d,List.getElem?_take,if_pos f]
theorem J6 {e s:Nat} {rest:List (List Int)} (a:e<65536) (h:∀ b,rest[0]?=some b->Bi e b):¬ ge 0 e s rest:=fun c=>by
 obtain ⟨g,d,i,j,f⟩:=xG c;exact (h _ (f 0 Ha)).head a d
theorem jb (e:Nat):∀ (Rs Rs':List (List Wr)) (s:Nat),aL e s (Rs++Rs')=aL e s Rs++aL e (s+Rs.length) Rs'
 | [],_,_=>rfl
 | l :: Rs,Rs',s=>by
   show putL 0 e s l++aL e (s+1) (Rs++Rs')=(putL 0 e s l++aL e (s+1) Rs)++_;rw [jb e Rs Rs' (s+1),List.append_assoc,List.length_cons,show s+1+Rs.length=s+(Rs.length+1) by omega]
theorem tU (e s:Nat) (l:List Wr):aL e s [l]=putL 0 e s l:=by show putL 0 e s l++[]=_;rw [List.append_nil]
theorem tV {e:Nat}:∀ {Rs:List (List Wr)} {s:Nat} {c:List Int},(∀ l∈Rs,bQ l/\bW l)->c∈aL e s Rs->EG e c
 | [],_,_,_,h=>by cases h
 | l :: Rs,s,c,a,h=>by
   rcases List.mem_append.1 h with h | h
   ·exact tT (a l Hb).1 (a l Hb).2 h
   ·exact tV (fun b d=>a b (by simp [d])) h
structure Bk where
 (k:Int) (bs:List Int)
deriving DecidableEq
def val (x:HB):Bk:=⟨x.k,x.bs⟩
def applyW (S:List Bk):List Wr->List Bk
 | []=>S
 | x :: l=>applyW (if 0<=x.t/\x.t<S.length then S.set x.t.toNat ⟨x.k,x.bs⟩ else S) l
theorem sS (S:List Bk):∀ l m,applyW S (l++m)=applyW (applyW S l) m:=by
 intro l
 induction l generalizing S with
 | nil=>intro m;rfl
 | cons x l ih=>intro m;exact ih _ m
theorem bZ:∀ (l:List Wr) (S:List Bk),(applyW S l).length=S.length
 | [],_=>rfl
 | x :: l,S=>by
   show (applyW _ l).length=_;rw [bZ l];split
   ·simp
   ·rfl
theorem rk:∀ (l:List Wr) (B:List HB),(cY B l).map val=applyW (B.map val) l
 | [],_=>rfl
 | x :: l,B=>by
   show (cY _ l).map val=applyW _ l;rw [rk l,List.length_map]
   congr 1
   split
   ·rw [List.map_set];rfl
   ·rfl
def kt (l:List Wr) (i:Nat):Prop:=∀ w∈l,w.t≠(i:Int)
theorem n4:∀ (l:List Wr) (B:List HB) (S:List Bk) (S0:Nat->Option Bk),B.length=S.length->(∀ (i:Nat) (x:HB),B[i]?=some x->(x.lg=true->S[i]?=some (val x))/\(x.lg=false->S[i]?=S0 i)) ->
 ∀ (i:Nat) (x:HB),(cY B l)[i]?=some x->(x.lg=true->(applyW S l)[i]?=some (val x))/\(x.lg=false->(applyW S l)[i]?=S0 i/\kt l i/\∃ y,B[i]?=some y/\y.lg=false)
 | [],B,S,S0,j,h,i,x,m=>⟨(h i x m).1,fun f=>⟨(h i x m).2 f,(fun w z=>by cases z),x,m,f⟩⟩
 | w :: l,B,S,S0,j,h,i,x,m=>by
   have c:(cY (if 0<=w.t/\w.t<B.length then B.set w.t.toNat ⟨w.k,w.bs,true⟩ else B) l)[i]?=some x:=m;by_cases n:0<=w.t/\w.t<B.length
   ·rw [if_pos n] at c;have g:0<=w.t/\w.t<S.length:=by rw [<- j];exact n
    have ih:=n4 l (B.set w.t.toNat ⟨w.k,w.bs,true⟩) (S.set w.t.toNat ⟨w.k,w.bs⟩) S0 (by simp [j]) (fun v A a=>by
     by_cases e:w.t.toNat=v
     ·subst e;rw [List.getElem?_set_self Ha] at a;injection a with a;subst a
      exact ⟨fun _=>by rw [List.getElem?_set_self Ha];rfl,fun f=>by cases f⟩
     ·rw [List.getElem?_set_ne e] at a;rw [List.getElem?_set_ne e];exact h v A a) i x c
    have p:applyW S (w :: l)=applyW (S.set w.t.toNat ⟨w.k,w.bs⟩) l:=by show applyW (if _ then _ else _) l=_;rw [if_pos g]
    rw [p];refine ⟨ih.1,fun f=>?_⟩;obtain ⟨q,r,y,d,o⟩:=ih.2 f;have s:w.t.toNat≠i:=fun e=>by
     subst e;rw [List.getElem?_set_self Ha] at d;injection d with d;subst d;cases o
    rw [List.getElem?_set_ne s] at d;refine ⟨q,fun u b=>?_,y,d,o⟩;rcases List.mem_cons.1 b with rfl | b
    ·omega
    ·exact r u b
   ·rw [if_neg n] at c;have g:¬ (0<=w.t/\w.t<S.length):=by rw [<- j];exact n
    have ih:=n4 l B S S0 j h i x c;have p:applyW S (w :: l)=applyW S l:=by show applyW (if _ then _ else _) l=_;rw [if_neg g]
    rw [p];refine ⟨ih.1,fun f=>?_⟩;obtain ⟨q,r,y,d,o⟩:=ih.2 f;refine ⟨q,fun u b=>?_,y,d,o⟩;rcases List.mem_cons.1 b with rfl | b
    ·have:=(List.getElem?_eq_some_iff.1 d).1;omega
    ·exact r u b
theorem ro:∀ (l:List Wr) (S:List Bk) (i:Nat),kt l i->(applyW S l)[i]?=S[i]?
 | [],_,_,_=>rfl
 | w :: l,S,i,h=>by
   show (applyW (if _ then _ else _) l)[i]?=_;rw [ro l _ i fun b a=>h b (by simp [a])];have:=h w Hb;split
   ·rw [List.getElem?_set_ne Ha]
   ·rfl
structure Bk.Ok (x:Bk):Prop where
 k:0<=x.k/\x.k<=7
 len:x.bs.length=56
 b:ay x.bs
def dO (S:List Bk):Prop:=∀ x∈S,x.Ok
theorem tW:∀ {l:List Wr} {S:List Bk},bW l->nZ l->dO S->dO (applyW S l)
 | [],_,_,_,h=>h
 | w :: l,S,d,e,h=>by
   refine tW (l:=l) (fun y a=>d y (by simp [a])) (fun y a=>e y (by simp [a])) ?_;have f:=d w Hb;split
   ·intro y a;rcases List.mem_or_eq_of_mem_set a with c | c
    ·exact h y c
    ·rw [c];exact ⟨e w Hb,f.len,f.b⟩
   ·exact h
def jp (m:DM) (r i:Nat) (b:List Int):Prop:=(gQ m r)[i]?=some b\/∃ x∈since m r,x.r=r/\x.i=i/\x.b=b
structure lA (m:DM) (r N:Nat):Prop where
 ok:m.Ok
 told:qI m
 lt:r<m.now.length
 len:N<=(aF m r).length
theorem rp:∀ (l:List dr) (r:Nat) (kept:Nat->Bool) (c:Nat) (s:List (List Int)) (i:Nat) (b:List Int),(gp l r kept c s)[i]?=some b->s[i]?=some b\/∃ x∈l,x.r=r/\x.i=i/\x.b=b
 | [],_,_,_,s,i,b,h=>Or.inl h
 | x :: l,r,kept,c,s,i,b,h=>by
   unfold gp at h;have f:∀ {s':List (List Int)},(s'[i]?=some b\/∃ y∈l,y.r=r/\y.i=i/\y.b=b)->s'[i]?=some b\/∃ y∈x :: l,y.r=r/\y.i=i/\y.b=b:=fun h=>h.imp id fun ⟨y,a,g⟩=>⟨y,by simp [a],g⟩
   split at h
   ·rename_i j;split at h
    ·exact Or.inl h
    ·rcases rp l r kept _ _ i b h with a | a
     ·split at a
      ·by_cases e:x.i=i
       ·have d:=(List.getElem?_eq_some_iff.1 a).1;rw [List.length_set] at d;rw [e,List.getElem?_set_self d] at a;injection a with a
        exact Or.inr ⟨x,Hb,j,e,a⟩
       ·rw [List.getElem?_set_ne e] at a;exact Or.inl a
      ·exact Or.inl a
     ·exact f (s':=s) (Or.inr a)
   ·exact f (rp l r kept _ _ i b h)
theorem xH {m:DM} {r N:Nat} (h:lA m r N) {i:Nat} {b:List Int} (a:(aF m r)[i]?=some b):jp m r i b:=by
 rw [<- h.told.full r h.lt] at a;exact rp _ _ _ _ _ _ _ a
theorem lA.row {m:DM} {r N:Nat} (h:lA m r N):m.now[r]?=some (aF m r):=by
 unfold aF;rw [List.getD,List.getElem?_eq_getElem h.lt];rfl
theorem lA.small {m:DM} {r N:Nat} (h:lA m r N):N<=1000:=Nat.le_trans h.len (h.ok.rows r _ h.row).1
theorem lA.get {m:DM} {r N:Nat} (h:lA m r N) {i:Nat} (a:i<N):∃ b,(aF m r)[i]?=some b:=⟨_,List.getElem?_eq_getElem (Nat.lt_of_lt_of_le a h.len)⟩
theorem lA.blk {m:DM} {r N:Nat} (h:lA m r N) {i:Nat} {b:List Int} (a:(aF m r)[i]?=some b):cQ b:=(h.ok.rows r _ h.row).2 b (List.mem_of_getElem? a)
theorem lA.hR {m:DM} {r N:Nat} (h:lA m r N):kf m (r:Int)=true:=by
 unfold kf;have:=h.lt;simp;exact this
theorem lA.hB {m:DM} {r N:Nat} (h:lA m r N) (i:Nat):iN m (r:Int) (i:Int)=decide (i<(aF m r).length):=by
 unfold iN;rw [h.hR,Int.toNat_natCast,kh h.row];simp
theorem lA.rV {m:DM} {r N:Nat} (h:lA m r N) (i:Nat):iY m (r:Int) (i:Int)=(aF m r)[i]?:=by
 unfold iY;rw [h.hB,Int.toNat_natCast,Int.toNat_natCast];show (if _ then (aF m r)[i]? else none)=_;by_cases a:i<(aF m r).length
 ·rw [if_pos (by simpa using a)]
 ·rw [if_neg (by simpa using a),List.getElem?_eq_none Ha]
theorem lA.rV_blk {m:DM} {r N:Nat} (h:lA m r N) (i:Int) (b:List Int) (c:iY m (r:Int) i=some b):cQ b:=by
 unfold iY at c;split at c
 ·rename_i e;obtain ⟨f,j,d,g,rfl,a,hj⟩:=qH e;rw [g,Int.toNat_natCast,Int.toNat_natCast,List.getD,a] at c;exact (h.ok.rows f d a).2 b (List.mem_of_getElem? c)
 ·cases c
theorem jq {m:DM} (a:aG m=true) (r i:Int) (b:List Int):m.doWrite r i b=m:=by unfold DM.doWrite;rw [if_neg (by rw [a];simp)]
theorem jc {m:DM} (a:aG m=true) (r:Int):m.doBarrier r=m:=by unfold DM.doBarrier;rw [if_neg (by rw [a];simp)]
theorem lA.write {m:DM} {r N:Nat} (h:lA m r N) (p:aG m=false) {i:Nat} (q:i<N) {b:List Int} (n:cQ b):lA (m.doWrite r i b) r N/\(∀ j c,jp (m.doWrite r i b) r j c->jp m r j c\/(j=i/\c=b))/\(∀ j,(aF (m.doWrite r i b) r)[j]?=if j=i then some b else (aF m r)[j]?)/\(m.doWrite r i b).stops=m.stops:=by
 have a:i<(aF m r).length:=Nat.lt_of_lt_of_le q h.len;have e:m.doWrite r i b=m.write r i b:=by
  unfold DM.doWrite;rw [if_pos ⟨by rw [h.hB];simpa using a,n.1,p⟩,Int.toNat_natCast,Int.toNat_natCast]
 have o:aF (m.write r i b) r=(aF m r).set i b:=oK _ _ _ _;have s:(m.write r i b).now.length=m.now.length:=by show (cj _ _ _ _).length=_;unfold cj;simp
 have f:=h.small;rw [e];refine ⟨⟨h.ok.write h.row a n,h.told.write h.ok r i b Ha,by rw [s];exact h.lt,by rw [o,List.length_set];exact h.len⟩,fun j c g=>?_,fun j=>?_,rfl⟩
 ·rcases g with g | ⟨x,d,t,k,l⟩
  ·exact Or.inl (Or.inl g)
  ·rw [jJ h.ok h.lt] at d;rcases List.mem_append.1 d with d | d
   ·exact Or.inl (Or.inr ⟨x,d,t,k,l⟩)
   ·rw [List.mem_singleton.1 d] at k l;exact Or.inr ⟨k.symm,l.symm⟩
 ·rw [o,List.getElem?_set];by_cases hj:i=j
  ·subst hj;rw [if_pos rfl,if_pos a,if_pos rfl]
  ·rw [if_neg hj,if_neg (fun h=>hj h.symm)]
theorem lA.barrier {m:DM} {r N:Nat} (h:lA m r N) (b:aG m=false):lA (m.doBarrier r) r N/\(∀ j c,jp (m.doBarrier r) r j c->(aF m r)[j]?=some c)/\(∀ j:Nat,(aF (m.doBarrier r) r)[j]?=(aF m r)[j]?)/\aG (m.doBarrier r)=false/\(m.doBarrier r).stops=m.stops:=by
 have e:m.doBarrier r=m.barrier r:=by
  unfold DM.doBarrier;rw [if_pos ⟨h.hR,b⟩,Int.toNat_natCast]
 obtain ⟨g,k,d,i,h5⟩:=nM h.told h.ok h.lt;rw [e];refine ⟨⟨(h.ok.tell h.lt).settle r _,h.told.barrier h.ok h.lt,h.lt,by rw [d];exact h.len⟩,fun j c a=>?_,fun j=>by rw [d],b,rfl⟩;rcases a with a | ⟨x,f,_⟩
 ·rw [g] at a;exact a
 ·rw [i] at f;cases f
structure Bj (m:DM) (r n g e:Nat) (S0:List Bk) (Rs:List (List Wr)):Prop where
 fit:lA m r (2+g+n)
 e1:1<=e
 e2:e<65000
 len:S0.length=n
 ok:dO S0
 n200:n<=200
 rs:∀ l∈Rs,bQ l/\bW l
 an:(aF m r)[e%2]?=some (bg 0 e)
 ao:∀ b,(aF m r)[(e+1)%2]?=some b->kq b ((e+1)%2)=true->dD 0 b<e
 hm:∀ (i:Nat) (x:Bk),S0[i]?=some x->kt Rs.flatten i->(aF m r)[2+g+i]?=some (cL 0 x.k i x.bs)
 lg:∃ rest,((aF m r).drop 2).take g=aL e 0 Rs++rest/\¬ ge 0 e Rs.length rest
 od:∀ i,i<g->∀ b,(aF m r)[2+i]?=some b->Bi (e+1) b
structure iT (m:DM) (r n g e:Nat) (S0:List Bk) (Rs:List (List Wr)) (k:Nat) (l:List Wr) (j:Nat):Prop where
 fit:lA m r (2+g+n)
 e1:1<=e
 e2:e<65000
 len:S0.length=n
 ok:dO S0
 n200:n<=200
 rs:∀ l∈Rs,bQ l/\bW l
 kle:k<=Rs.length
 fits:(aL e 0 Rs).length+j<=g
 an:∀ b,jp m r (e%2) b->b=bg 0 e
 ao:∀ b,jp m r ((e+1)%2) b->kq b ((e+1)%2)=true->dD 0 b<e
 hm:∀ (i:Nat) (x:Bk),S0[i]?=some x->∀ b,jp m r (2+g+i) b->b=cL 0 x.k i x.bs
 lg:∀ (i:Nat) (c:List Int),(aL e 0 Rs)[i]?=some c->∀ b,jp m r (2+i) b->b=c\/Bi e b
 sure:∀ (i:Nat) (c:List Int),(aL e 0 (Rs.take k))[i]?=some c->∀ b,jp m r (2+i) b->b=c
 nw:∀ (i:Nat) (c:List Int),(aL e 0 Rs)[i]?=some c->(aF m r)[2+i]?=some c
 part:j=0\/(bQ l/\bW l/\j<=l.length)
 pt:∀ i,i<j->∀ b,jp m r (2+((aL e 0 Rs).length+i)) b->some b=(putL 0 e Rs.length l)[i]?\/Bi e b
 ptn:∀ i,i<j->(aF m r)[2+((aL e 0 Rs).length+i)]?=(putL 0 e Rs.length l)[i]?
 old:∀ i,(aL e 0 Rs).length+j<=i->i<g->∀ b,jp m r (2+i) b->Bi e b
theorem vx {m:DM} {r g i:Nat} {b:List Int} (h:(((aF m r).drop 2).take g)[i]?=some b):i<g/\(aF m r)[2+i]?=some b:=by
 rw [List.getElem?_take] at h;split at h
 ·rename_i a;rw [List.getElem?_drop] at h;exact ⟨a,h⟩
 ·cases h
theorem Bl {m:DM} {r N g:Nat} (h:lA m r N) (a:2+g<=N):(((aF m r).drop 2).take g).length=g:=by
 rw [List.length_take,List.length_drop];have:=h.len;omega
theorem iT.od {m:DM} {r n g e:Nat} {S0:List Bk} {Rs:List (List Wr)} {k:Nat} {l:List Wr} {j:Nat} (h:iT m r n g e S0 Rs k l j) {i:Nat} (q:i<g) {b:List Int} (f:jp m r (2+i) b):Bi (e+1) b:=by
 by_cases s:i<(aL e 0 Rs).length
 ·obtain ⟨c,o⟩:∃ c,(aL e 0 Rs)[i]?=some c:=⟨_,List.getElem?_eq_getElem s⟩
  rcases h.lg i c o b f with d | d
  ·rw [d];exact (tV h.rs (List.mem_of_getElem? o)).old h.e1
  ·exact d.mono (Nat.le_succ _)
 ·by_cases d:i<(aL e 0 Rs).length+j
  ·have a:=h.pt (i-(aL e 0 Rs).length) Ha b (by rw [show (aL e 0 Rs).length+(i-(aL e 0 Rs).length)=i by omega];exact f);rcases a with a | a
   ·rcases h.part with p | ⟨p,h5,_⟩
    ·omega
    ·exact (tT p h5 (List.mem_of_getElem? a.symm)).old h.e1
   ·exact a.mono (Nat.le_succ _)
  ·exact (h.old i Ha q b f).mono (Nat.le_succ _)
theorem iT.mtb_now {m:DM} {r n g e:Nat} {S0:List Bk} {Rs:List (List Wr)} {k:Nat} {l:List Wr} (h:iT m r n g e S0 Rs k l 0):Bj m r n g e S0 Rs:=by
 have f:∀ i b,(aF m r)[i]?=some b->jp m r i b:=fun i b a=>xH h.fit a;have j:=Bl (g:=g) h.fit Ha;have o:=h.fits;have s:((aF m r).drop 2).take g=aL e 0 Rs++(((aF m r).drop 2).take g).drop (aL e 0 Rs).length:=by
  apply List.ext_getElem?;intro i;by_cases d:i<(aL e 0 Rs).length
  ·rw [List.getElem?_append_left d];obtain ⟨c,p⟩:∃ c,(aL e 0 Rs)[i]?=some c:=⟨_,List.getElem?_eq_getElem d⟩
   rw [p,List.getElem?_take,if_pos Ha,List.getElem?_drop];exact h.nw i c p
  ·rw [List.getElem?_append_right Ha,List.getElem?_drop,show (aL e 0 Rs).length+(i-(aL e 0 Rs).length)=i by omega]
 refine ⟨h.fit,h.e1,h.e2,h.len,h.ok,h.n200,h.rs,?_,fun b a=>h.ao b (f _ _ a),fun i x q _=>?_,⟨_,s,J6 (by have:=h.e2;omega) fun b a=>?_⟩,fun i d b a=>h.od d (f _ _ a)⟩
 ·obtain ⟨b,a⟩:=h.fit.get (i:=e%2) (by have:=Nat.mod_lt e (show 0<2 by omega);omega);rw [a,h.an b (f _ _ a)]
 ·have d:=(List.getElem?_eq_some_iff.1 q).1;rw [h.len] at d;obtain ⟨b,a⟩:=h.fit.get (i:=2+g+i) Ha;rw [a,h.hm i x q b (f _ _ a)]
 ·rw [List.getElem?_drop] at a;exact h.old _ Ha (vx a).1 b (f _ _ (vx a).2)
def iH (m:DM) (r:Nat):Prop:=∀ j c,jp m r j c->(aF m r)[j]?=some c
def LB (m:DM) (Q F:DM->Prop):Prop:=(aG m=false/\Q m)\/(aG m=true/\F m)
section
variable {m:DM} {r n g e:Nat} {S0:List Bk} {Rs:List (List Wr)} {k:Nat} {l:List Wr} {j:Nat}
theorem iT.bar (h:iT m r n g e S0 Rs k l 0) (q:aG m=false):iT (m.doBarrier r) r n g e S0 Rs Rs.length l 0/\iH (m.doBarrier r) r:=by
 obtain ⟨s,o,p,_,_⟩:=h.fit.barrier q;have f:∀ i b,jp (m.doBarrier r) r i b->jp m r i b:=fun i b a=>xH h.fit (o i b a);refine ⟨⟨s,h.e1,h.e2,h.len,h.ok,h.n200,h.rs,Nat.le_refl _,h.fits,fun b a=>h.an b (f _ _ a),fun b a=>h.ao b (f _ _ a),fun i x t b a=>h.hm i x t b (f _ _ a),fun i c d b a=>h.lg i c d b (f _ _ a),fun i c d b a=>?_,fun i c d=>by rw [p];exact h.nw i c d,Or.inl rfl,fun i u=>Ha,fun i u=>Ha,fun i v h5 b a=>h.old i v h5 b (f _ _ a)⟩,fun i c d=>by rw [p];exact o i c d⟩;rw [List.take_length] at d;have j:=o _ _ a;rw [h.nw i c d] at j;injection j with j;exact j.symm
theorem iT.relabel (h:iT m r n g e S0 Rs k l 0) (a:List Wr):iT m r n g e S0 Rs k a 0 :=
 { h with part:=Or.inl rfl,pt:=fun i b=>Ha,ptn:=fun i b=>by omega }
theorem tX {k:Int} {bs:List Int} (t:Nat) (b:0<=k/\k<=7) (a:bs.length=56) (c:ay bs):cQ (cL 0 k t bs):=⟨fR a,mT Ha b c⟩
theorem iT.write (h:iT m r n g e S0 Rs k l j) (X:aG m=false) (y:bQ l/\bW l) (hj:j<=l.length) (U:(aL e 0 Rs).length+(1+l.length)<=g) {c:List Int} (N:(putL 0 e Rs.length l)[j]?=some c) :
 (j<l.length->iT (m.doWrite r ((2+((aL e 0 Rs).length+j):Nat):Int) c) r n g e S0 Rs k l (j+1))/\(j=l.length->iT (m.doWrite r ((2+((aL e 0 Rs).length+j):Nat):Int) c) r n g e S0 (Rs++[l]) k [] 0):=by
 have O:cQ c:=xC e Rs.length y.1 y.2 c (List.mem_of_getElem? N);obtain ⟨V,W,f3,_⟩:=h.fit.write X (i:=2+((aL e 0 Rs).length+j)) Ha O;have f:∀ i b,i≠2+((aL e 0 Rs).length+j)->jp (m.doWrite r ((2+((aL e 0 Rs).length+j):Nat):Int) c) r i b->jp m r i b:=fun i b q d=>(W i b d).resolve_right fun h=>q h.1;have t:∀ i,i≠2+((aL e 0 Rs).length+j)->(aF (m.doWrite r ((2+((aL e 0 Rs).length+j):Nat):Int) c) r)[i]?=(aF m r)[i]?:=fun i q=>by rw [f3,if_neg q]
 have z:=f3 (2+((aL e 0 Rs).length+j));rw [if_pos rfl] at z;have A:∀ x:Nat,x%2<2:=fun x=>Nat.mod_lt _ Ha;have B:∀ b,jp (m.doWrite r ((2+((aL e 0 Rs).length+j):Nat):Int) c) r (e%2) b->b=bg 0 e:=fun b d=>h.an b (f _ _ (by have:=A e;omega) d);have C:∀ b,jp (m.doWrite r ((2+((aL e 0 Rs).length+j):Nat):Int) c) r ((e+1)%2) b->kq b ((e+1)%2)=true->dD 0 b<e:=fun b d=>h.ao b (f _ _ (by have:=A (e+1);omega) d);have H:∀ (i:Nat) (x:Bk),S0[i]?=some x->∀ b,jp (m.doWrite r ((2+((aL e 0 Rs).length+j):Nat):Int) c) r (2+g+i) b->b=cL 0 x.k i x.bs:=fun i x Y b d=>h.hm i x Y b (f _ _ Ha d);have Z:(aL e 0 (Rs.take k)).length<=(aL e 0 Rs).length:=by
  have h5:aL e 0 Rs=aL e 0 (Rs.take k)++aL e (0+(Rs.take k).length) (Rs.drop k):=by rw [<- jb,List.take_append_drop]
  rw [h5,List.length_append];omega
 have I:∀ (i:Nat) (p:List Int),(aL e 0 (Rs.take k))[i]?=some p->∀ b,jp (m.doWrite r ((2+((aL e 0 Rs).length+j):Nat):Int) c) r (2+i) b->b=p:=fun i p a b d=>h.sure i p a b (f _ _ (by have:=(List.getElem?_eq_some_iff.1 a).1;omega) d);have K:∀ i,i<j+1->∀ b,jp (m.doWrite r ((2+((aL e 0 Rs).length+j):Nat):Int) c) r (2+((aL e 0 Rs).length+i)) b->some b=(putL 0 e Rs.length l)[i]?\/Bi e b:=fun i q b d=>by
  by_cases u:i=j
  ·subst u;rcases W _ _ d with o | ⟨_,o⟩
   ·exact Or.inr (h.old _ (Nat.le_refl _) Ha b o)
   ·exact Or.inl (by rw [N,o])
  ·exact h.pt i Ha b (f _ _ Ha d)
 have s:∀ i,i<j+1->(aF (m.doWrite r ((2+((aL e 0 Rs).length+j):Nat):Int) c) r)[2+((aL e 0 Rs).length+i)]?=(putL 0 e Rs.length l)[i]?:=fun i q=>by
  by_cases u:i=j
  ·subst u;rw [z,N]
  ·rw [t _ Ha];exact h.ptn i Ha
 refine ⟨fun L=>⟨V,h.e1,h.e2,h.len,h.ok,h.n200,h.rs,h.kle,Ha,B,C,H,fun i p a b d=>h.lg i p a b (f _ _ (by have:=(List.getElem?_eq_some_iff.1 a).1;omega) d),I,fun i p a=>by rw [t _ (by have:=(List.getElem?_eq_some_iff.1 a).1;omega)];exact h.nw i p a,Or.inr ⟨y.1,y.2,L⟩,K,s,fun i o M b d=>h.old i Ha M b (f _ _ Ha d)⟩,fun L=>?_⟩;have v:aL e 0 (Rs++[l])=aL e 0 Rs++putL 0 e Rs.length l:=by rw [jb,tU,Nat.zero_add]
 have R:(putL 0 e Rs.length l).length=1+l.length:=bG _ _ _ _;have w:(aL e 0 (Rs++[l])).length=(aL e 0 Rs).length+(1+l.length):=by rw [v,List.length_append,R]
 refine ⟨V,h.e1,h.e2,h.len,h.ok,h.n200,fun l' S=>?_,by rw [List.length_append];have:=h.kle;omega,by rw [w];omega,B,C,H,fun i p a b d=>?_,fun i p a b d=>?_,fun i p a=>?_,Or.inl rfl,fun i q=>Ha,fun i q=>Ha,fun i o M b d=>h.old i (by rw [w] at o;omega) M b (f _ _ (by rw [w] at o;omega) d)⟩
 ·rcases List.mem_append.1 S with o | o
  ·exact h.rs l' o
  ·rw [List.mem_singleton.1 o];exact y
 ·rw [v] at a;by_cases q:i<(aL e 0 Rs).length
  ·rw [List.getElem?_append_left q] at a;exact h.lg i p a b (f _ _ Ha d)
  ·rw [List.getElem?_append_right Ha] at a;have T:=(List.getElem?_eq_some_iff.1 a).1;have o:=K (i-(aL e 0 Rs).length) Ha b (by rw [show (aL e 0 Rs).length+(i-(aL e 0 Rs).length)=i by omega];exact d);rw [a] at o;exact o.imp (fun M=>by injection M) id
 ·rw [List.take_append_of_le_length h.kle] at a;exact I i p a b d
 ·rw [v] at a;by_cases q:i<(aL e 0 Rs).length
  ·rw [List.getElem?_append_left q] at a;rw [t _ Ha];exact h.nw i p a
  ·rw [List.getElem?_append_right Ha] at a;have T:=(List.getElem?_eq_some_iff.1 a).1;have o:=s (i-(aL e 0 Rs).length) Ha;rw [show (aL e 0 Rs).length+(i-(aL e 0 Rs).length)=i by omega,a] at o;exact o
end
theorem o5 {m:DM} (a:aG m=true) (r:Int):∀ (l:List (List Int)) (o:Nat),jD r m o l=m
 | [],_=>rfl
 | b :: l,o=>by show jD r (m.doWrite r _ b) (o+1) l=m;rw [jq a,o5 a r l]
theorem J7 {r n g e:Nat} {S0:List Bk} {Rs:List (List Wr)} {k:Nat} {l:List Wr} {F:DM->Prop} (t:bQ l/\bW l) (f:(aL e 0 Rs).length+(1+l.length)<=g) (u:∀ m j,iT m r n g e S0 Rs k l j->F m) (o:∀ m,iT m r n g e S0 (Rs++[l]) k [] 0->F m) :
 ∀ (d:Nat) (m:DM) (j:Nat),j+d=l.length->LB m (fun m=>iT m r n g e S0 Rs k l j) F->LB (jD r m ((aL e 0 Rs).length+j) ((putL 0 e Rs.length l).drop j)) (fun m=>iT m r n g e S0 (Rs++[l]) k [] 0) F:=by
 intro d;have v:(putL 0 e Rs.length l).length=1+l.length:=bG _ _ _ _
 induction d with
 | zero =>
   intro m j hj p;obtain ⟨c,h⟩:∃ c,(putL 0 e Rs.length l)[j]?=some c:=⟨_,List.getElem?_eq_getElem Ha⟩
   have hd:(putL 0 e Rs.length l).drop j=[c]:=by
    rw [List.drop_eq_getElem_cons Ha,(List.getElem?_eq_some_iff.1 h).2,List.drop_of_length_le Ha]
   rw [hd];show LB (m.doWrite r ((2+((aL e 0 Rs).length+j):Nat):Int) c) _ _;rcases p with ⟨b,q⟩ | ⟨b,s⟩
   ·have i:=(q.write b t Ha f h).2 Ha;cases a:aG (m.doWrite r ((2+((aL e 0 Rs).length+j):Nat):Int) c)
    ·exact Or.inl ⟨a,i⟩
    ·exact Or.inr ⟨a,o _ i⟩
   ·rw [jq b];exact Or.inr ⟨b,s⟩
 | succ d ih =>
   intro m j hj p;obtain ⟨c,h⟩:∃ c,(putL 0 e Rs.length l)[j]?=some c:=⟨_,List.getElem?_eq_getElem Ha⟩
   rw [List.drop_eq_getElem_cons Ha,(List.getElem?_eq_some_iff.1 h).2];show LB (jD r (m.doWrite r ((2+((aL e 0 Rs).length+j):Nat):Int) c) ((aL e 0 Rs).length+j+1) _) _ _;refine ih _ (j+1) Ha ?_;rcases p with ⟨b,q⟩ | ⟨b,s⟩
   ·have i:=(q.write b t Ha f h).1 Ha;cases a:aG (m.doWrite r ((2+((aL e 0 Rs).length+j):Nat):Int) c)
    ·exact Or.inl ⟨a,i⟩
    ·exact Or.inr ⟨a,u _ _ i⟩
   ·rw [jq b];exact Or.inr ⟨b,s⟩
structure qf (v:VM) (r n g e:Nat) (S0:List Bk) (Rs:List (List Wr)):Prop where
 vr:v.r=(r:Int)
 vn:v.n=n
 vg:v.g=g
 ve:v.ep=e
 vok:v.Ok
 val:v.B.map val=applyW S0 Rs.flatten
 fl:∀ (i:Nat) (x:HB),v.B[i]?=some x->x.lg=false->kt Rs.flatten i
theorem qf.at_ {v:VM} {r n g e:Nat} {S0:List Bk} {Rs:List (List Wr)} (h:qf v r n g e S0 Rs) {i:Nat} {x:HB} (a:v.B[i]?=some x):(applyW S0 Rs.flatten)[i]?=some (Proofs.YtegjelaejbacnaaGreat.val x):=by
 rw [<- h.val,List.getElem?_map,a];rfl
theorem m5 {m:DM} (a:aG m=true) (r:Int) (g:Nat):∀ (l:List HB) (o:Nat),bR r g m o l=m
 | [],_=>rfl
 | x :: l,o=>by
   show bR r g (if x.lg then m.doWrite r _ _ else m) (o+1) l=m;rw [show (if x.lg then m.doWrite r ((2+g+o:Nat):Int) (cL 0 x.k o x.bs) else m)=m by split;exact jq a _ _ _;rfl,m5 a r g l]
theorem m6 {m:DM} (a:aG m=true) (r:Int) (e:Nat):m.doBegin r e=m:=by
 unfold DM.doBegin;rw [jc a,jq a,jc a]
theorem rq {r g N:Nat}:∀ (l:List HB) (o:Nat) (m:DM),lA m r N->2+g+o+l.length<=N->mG l->aG (bR r g m o l)=false ->
 lA (bR r g m o l) r N/\(∀ j,(j<2+g+o\/2+g+o+l.length<=j)->(aF (bR r g m o l) r)[j]?=(aF m r)[j]?)/\∀ (i:Nat) (x:HB),l[i]?=some x->(aF (bR r g m o l) r)[2+g+(o+i)]?=if x.lg then some (cL 0 x.k (o+i) x.bs) else (aF m r)[2+g+(o+i)]?
 | [],o,m,p,_,_,_=>⟨p,fun _ _=>rfl,fun i x a=>by cases a⟩
 | y :: l,o,m,p,w,f,h=>by
   rw [List.length_cons] at w;have s:=f y Hb;have q:aG m=false:=by
    cases q:aG m
    ·rfl
    ·rw [m5 q,q] at h;cases h
   have c:aG (bR r g (if y.lg then m.doWrite r ((2+g+o:Nat):Int) (cL 0 y.k o y.bs) else m) (o+1) l)=false:=h;cases d:y.lg
   ·rw [d] at c;obtain ⟨t,n,u⟩:=rq l (o+1) m p Ha (fun x a=>f x (by simp [a])) c;have e:bR r g m o (y :: l)=bR r g m (o+1) l:=by show bR r g (if y.lg then _ else _) (o+1) l=_;rw [d];rfl
    rw [e];refine ⟨t,fun j hj=>n j (by rw [List.length_cons] at hj;omega),fun i x a=>?_⟩;cases i with
    | zero =>
      injection a with a;subst a
      rw [d,Nat.add_zero,n _ Ha];rfl
    | succ i =>
      have:=u i x a;rw [show o+1+i=o+(i+1) by omega] at this;exact this
   ·rw [d] at c;obtain ⟨z,_,v,_⟩:=p.write q (i:=2+g+o) Ha (tX o s.k s.len s.b);obtain ⟨t,n,u⟩:=rq l (o+1) _ z Ha (fun x a=>f x (by simp [a])) c;have e:bR r g m o (y :: l)=bR r g (m.doWrite r ((2+g+o:Nat):Int) (cL 0 y.k o y.bs)) (o+1) l:=by show bR r g (if y.lg then _ else _) (o+1) l=_;rw [d];rfl
    rw [e];refine ⟨t,fun j hj=>by rw [n j (by rw [List.length_cons] at hj;omega),v,if_neg (by rw [List.length_cons] at hj;omega)],fun i x a=>?_⟩;cases i with
    | zero =>
      injection a with a;subst a
      show (aF _ r)[2+g+o]?=if y.lg then some (cL 0 y.k o y.bs) else (aF m r)[2+g+o]?;rw [d,n _ Ha,v,if_pos rfl];rfl
    | succ i =>
      have:=u i x a;rw [show o+1+i=o+(i+1) by omega,v,if_neg (show ¬ 2+g+(o+(i+1))=2+g+o by omega)] at this;exact this
theorem kL {e:Nat} (a:e<65000):dD 0 (bg 0 e)=e:=by
 unfold dD;rw [if_pos ((mE (lb:=0) (lb':=0) (e:=e) Ha).2 ⟨rfl,Ha⟩)];exact q8 Ha
theorem pP {m:DM} {r n g e:Nat} {S:List Bk} (fit:lA m r (2+g+n)) (f:iH m r) (j:1<=e) (o:e<65000) (len:S.length=n) (ok:dO S) (n200:n<=200) (p:(aF m r)[e%2]?=some (bg 0 e)) (ao:∀ b,(aF m r)[(e+1)%2]?=some b->kq b ((e+1)%2)=true->dD 0 b<e)
 (q:∀ (i:Nat) (x:Bk),S[i]?=some x->(aF m r)[2+g+i]?=some (cL 0 x.k i x.bs)) (od:∀ i,i<g->∀ b,(aF m r)[2+i]?=some b->Bi e b):iT m r n g e S [] 0 [] 0 :=
 ⟨fit,j,o,len,ok,n200,(fun l s=>by cases s),Nat.le_refl _,Nat.zero_le _,fun b a=>by have:=f _ _ a;rw [p] at this;injection this with this;exact this.symm,fun b a=>ao b (f _ _ a),fun i x t b a=>by have:=f _ _ a;rw [q i x t] at this;injection this with this;exact this.symm,(fun i c d=>by cases d),(fun i c d=>by cases d),(fun i c d=>by cases d),Or.inl rfl,fun i h=>Ha,fun i h=>Ha,fun i _ h b a=>od i h b (f _ _ a)⟩
theorem tY {m:DM} {r N e:Nat} (h:lA m r N) (v:2<=N) (d:aG (m.doBegin r e)=false):lA (m.doBegin r e) r N/\iH (m.doBegin r e) r/\∀ j,(aF (m.doBegin r e) r)[j]?=if j=e%2 then some (bg 0 e) else (aF m r)[j]?:=by
 have f:aG m=false:=by
  cases f:aG m
  ·rfl
  ·rw [m6 f,f] at d;cases d
 obtain ⟨k,_,l,n,_⟩:=h.barrier f;have o:e%2<2:=Nat.mod_lt _ Ha;obtain ⟨p,_,q,_⟩:=k.write n (i:=e%2) Ha ⟨cm 0 e,kG e Ha⟩;have b:aG (((m.doBarrier r).doWrite r ((e%2:Nat):Int) (bg 0 e)).doBarrier r)=false:=d;have a:aG ((m.doBarrier r).doWrite r ((e%2:Nat):Int) (bg 0 e))=false:=by
  cases a:aG ((m.doBarrier r).doWrite r ((e%2:Nat):Int) (bg 0 e))
  ·rfl
  ·rw [jc a,a] at b;cases b
 obtain ⟨s,t,g,_,_⟩:=p.barrier a;refine ⟨s,fun j c u=>?_,fun j=>?_⟩
 ·show (aF (((m.doBarrier r).doWrite r ((e%2:Nat):Int) (bg 0 e)).doBarrier r) r)[j]?=_;rw [g];exact t j c u
 ·show (aF (((m.doBarrier r).doWrite r ((e%2:Nat):Int) (bg 0 e)).doBarrier r) r)[j]?=_;rw [g,q,l]
theorem Bj.home {m:DM} {r n g e:Nat} {S0:List Bk} {Rs:List (List Wr)} {v:VM} (h:Bj m r n g e S0 Rs) (d:qf v r n g e S0 Rs) (M:e+1<65000) (a:aG (fE m v)=false):iT (fE m v) r n g (e+1) (applyW S0 Rs.flatten) [] 0 [] 0/\iH (fE m v) r:=by
 unfold fE at a ⊢;rw [d.vr,d.vg,d.ve] at a ⊢;have N:v.B.length=n:=d.vok.len.trans d.vn;have s:aG (bR r g m 0 v.B)=false:=by
  cases C:aG (bR r g m 0 v.B)
  ·rfl
  ·rw [m6 C,C] at a;cases a
 obtain ⟨O,H,R⟩:=rq v.B 0 m h.fit Ha d.vok.ok s;obtain ⟨S,I,p⟩:=tY O Ha a;have j:∀ x:Nat,x%2<2:=fun x=>Nat.mod_lt _ Ha;have f:(applyW S0 Rs.flatten).length=n:=by rw [bZ];exact h.len
 refine ⟨pP S I Ha M f (tW (fun w k=>?_) (fun w k=>?_) h.ok) h.n200 (by rw [p,if_pos rfl]) (fun b o T=>?_) (fun i x q=>?_) (fun i t b o=>?_),I⟩
 ·obtain ⟨l,u,k⟩:=List.mem_flatten.1 k;exact (h.rs l u).2 w k
 ·obtain ⟨l,u,k⟩:=List.mem_flatten.1 k;exact (h.rs l u).1.kinds w k
 ·rw [p,if_neg Ha,H _ (by have:=j (e+1+1);omega),show (e+1+1)%2=e%2 by omega,h.an] at o;injection o with o
  rw [<- o,kL Ha];omega
 ·have t:=(List.getElem?_eq_some_iff.1 q).1;rw [f] at t;obtain ⟨y,z⟩:∃ y,v.B[i]?=some y:=⟨_,List.getElem?_eq_getElem Ha⟩
  have c:=d.at_ z;rw [q] at c;injection c with c
  have K:=R i y z;rw [Nat.zero_add] at K;rw [p,if_neg (by have:=j (e+1);omega),K,c];cases A:y.lg
  ·have L:=d.fl i y z A;rw [ro _ _ _ L] at q;have h5:=h.hm i x q L;rw [c] at h5;exact h5
  ·rfl
 ·rw [p,if_neg (by have:=j (e+1);omega),H _ Ha] at o;exact h.od i t b o
end Go.Proofs.YtegjelaejbacnaaGreat
