/- For FileLong: contracts and facts, part 24. -/
import Derived.Test.YtegjelaejbacnaaGreatL23
set_option maxRecDepth 100000
set_option maxHeartbeats 25600000
set_option linter.unusedVariables false
open Go.ChangeShapes Go.WideShapes Go.ChangeAt Go.RowKit
namespace Go.Proofs.YtegjelaejbacnaaGreat
structure jB where
 P:List Wr
 T:List Bool
 nd:Nd
 ix:List Int
def so (C:BN) (a:Int):Bool:=decide (0<=a/\a<C.n)
def own2 (C:BN) (k:Nat) (s:jB):Bool × jB :=
 if j6 C s.P s.T<C.n then
  let q:=fO s.nd s.ix k (j6 C s.P s.T:Nat)
  let a:=pT C s.P (j6 C s.P s.T:Nat) dH
  (true,if 4<=k then ⟨(Gy C a q.1 q.2).1,gf (C.N s.P) s.T,(Gy C a q.1 q.2).2,q.2⟩ else ⟨a,gf (C.N s.P) s.T,q.1,q.2⟩)
 else (false,{ s with T:=gf (C.N s.P) s.T })
def own1 (C:BN) (k:Nat) (s:jB):Bool × jB :=
 if 4<=k/\so C s.nd.x=false then
  if j6 C s.P s.T<C.n then own2 C k { s with T:=gf (C.N s.P) s.T,nd:={ s.nd with x:=(j6 C s.P s.T:Nat) } }
  else (false,{ s with T:=gf (C.N s.P) s.T })
 else own2 C k s
def lN (C:BN) (k:Nat) (s:jB):Bool × jB:=if so C (fw s.nd s.ix k)=true then (true,s) else own1 C k s
abbrev FZ (C:TC) (G:Nat->Obj->Prop) (W0:World) (o0:Option Nat) (W:World) (pv:Value) (ob:Nat) (t:Int) (ib cap:Nat) (s:jB):Prop:=FS C G W0 o0 W pv s.P s.T ob t s.nd ib cap s.ix
section
variable {C:TC} {G:Nat->Obj->Prop} {W0 W:World} {o0:Option Nat} {pv:Value} {ob ib cap:Nat} {t:Int} {s:jB}
theorem FT:dH.Wk:=⟨by constructor <;> decide,yp.len,yp.b⟩
theorem sp (C:BN) (P:List Wr) (a:Int) (x:Bk):(pT C P a x).length<=P.length+1:=by
 unfold pT;have:=yx P ⟨a,x.k,x.bs⟩;split <;> omega
theorem IT {nd:Nd} {ix:List Int} (h:ix.length=16) (k:Nat) (c:k<20) (a:Int):fw (fO nd ix k a).1 (fO nd ix k a).2 k=a:=by
 unfold fw fO;by_cases b:k<4
 ·rw [if_pos b,if_pos b]
  match k,b with | 0,_ | 1,_ | 2,_ | 3,_=>rfl
 ·rw [if_neg b,if_neg b];dsimp only;rw [List.getD,List.getElem?_set_self Ha];rfl
theorem FU (h:FZ C G W0 o0 W pv ob t ib cap s) (h0:C.w0.heap.size<=W0.heap.size) (k:Nat) (hk:k<20) (h1:0<C.n) (A:C.n<=200) (a9:s.P.length<190):Calls Tryz.prog 78 #[.pointer (some ⟨ob,0,none⟩),.int .i64 (k:Int)] W fun e w'=>e=.returned (.bool (lN C.bn k s).1)/\∃ a2,FZ C G W0 o0 w' a2 ob t ib cap (lN C.bn k s).2:=by
 have HS:=He h;have I:=He (mp h k hk);obtain ⟨hc,K,hi⟩:=h.cP k hk;have HH:=He (yG h _ hi);obtain ⟨R,B⟩:∃ R,R=lN C.bn k s:=⟨_,rfl⟩
 rw [<- B];unfold lN at B;obtain ⟨na,r⟩:∃ na,na=DQ ob ib k:=⟨_,rfl⟩
 rw [<- r] at I hc K;have M:=He r;change Hid (Calls Tryz.prog _ _ _ fun e w'=>e=.returned (.bool (so C.bn (fw s.nd s.ix k)))/\_) at HH;cases o:so C.bn (fw s.nd s.ix k) with
 | true =>
   rw [o] at HH;rw [o,if_pos rfl] at B;have l:=He B;clear h B r o;go_enter Tryz.func78,Tryz.ntmps78;go_wp2_with fail
   refine I.out.mono ?_;rintro e w1 ⟨rfl,rfl⟩;go_wp2_with fail
   refine HH.out.mono ?_;rintro e w1 ⟨rfl,i⟩;have p:=He (HS.out.below i);clear i hc K;go_wp2_with fail
   go_ret;exact ⟨by rw [l.out];rfl,pv,by rw [l.out];exact p.out⟩
 | false =>
   rw [o] at HH;rw [o,if_neg Hd] at B;have l:=He B;clear h B r o;go_enter Tryz.func78,Tryz.ntmps78;go_wp2_with fail
   refine I.out.mono ?_;rintro e w1 ⟨rfl,rfl⟩;obtain ⟨b4,O⟩:∃ b4,b4=decide (4<=k):=⟨_,rfl⟩
   have ad:decide ((4:Int)<=k)=b4:=by rw [O];exact decide_eq_decide.2 Ha
   have u:=He O;clear O;go_upto_region 3 with (rw [ad])
   go_wp2_with fail
   refine HH.out.mono ?_;rintro e w1 ⟨rfl,i⟩;have p:=He (HS.out.below i);clear i hc K HS HH;go_upto_region 5 with fail
   go_cut [36] (fun v wx=>∃ (bad:Bool) (y:List Bool) (n1:Nd),v=.bool bad/\Hid (FZ C G W0 o0 wx pv ob t ib cap { s with T:=y,nd:=n1 })/\Hid (own1 C.bn k s=if bad=true then (false,{ s with T:=y,nd:=n1 }) else own2 C.bn k { s with T:=y,nd:=n1 }))
   case first =>
    cases b4 with
    | false =>
      have j:¬ 4<=k:=fun h=>by have:=u.out;rw [decide_eq_true h] at this;cases this
      have b:Hid (own1 C.bn k s=own2 C.bn k s):=by unfold Hid own1;rw [if_neg (fun h=>j h.1)]
      clear j;go_wp2_with fail
      go_meet
      case rel=>exact ⟨false,s.T,s.nd,rfl,p.out,by rw [b.out];rfl⟩
    | true =>
      have j:4<=k:=of_decide_eq_true u.out.symm;have c9:w1.cell? ⟨ob,9,none⟩=some (.int .i64 s.nd.x):=p.out.c 9;have m:=He (yG p.out s.nd.x p.out.ok.x);change Hid (Calls Tryz.prog _ _ _ fun e w'=>e=.returned (.bool (so C.bn s.nd.x))/\_) at m;cases hx:so C.bn s.nd.x with
      | true =>
        have b:Hid (own1 C.bn k s=own2 C.bn k s):=by unfold Hid own1;rw [if_neg (fun h=>by rw [hx] at h;cases h.2)]
        rw [hx] at m;clear j hx;go_wp2_with fail
        refine m.out.mono ?_;rintro e w2 ⟨rfl,i⟩;have S:=He (p.out.below i);clear i c9;go_wp2_with fail
        go_meet
        case rel=>exact ⟨false,s.T,s.nd,rfl,S.out,by rw [b.out];rfl⟩
      | false =>
        have b:Hid (own1 C.bn k s=if j6 C.bn s.P s.T<C.n then own2 C.bn k { s with T:=gf (C.N s.P) s.T,nd:={ s.nd with x:=(j6 C.bn s.P s.T:Nat) } } else (false,{ s with T:=gf (C.N s.P) s.T })):=by unfold Hid own1;rw [if_pos ⟨j,hx⟩]
        rw [hx] at m;clear j hx;go_wp2_with fail
        refine m.out.mono ?_;rintro e w2 ⟨rfl,i⟩;have S:=He (p.out.below i);have g:=He (uG S.out h1 A ⟨ob,9,none⟩ (fun W' d=>⟨⟨_,d.c 9⟩,d.f 9⟩));clear i c9 p;generalize gf (C.N s.P) s.T=y at *;generalize j6 C.bn s.P s.T=f at *;by_cases a:f<C.n
        ·rw [if_pos a] at b;simp only [if_pos a,decide_eq_true a] at g;have a3:=He a;clear a;go_wp2_with fail
         refine g.out.mono ?_;rintro e w3 ⟨rfl,w4,d,rfl⟩;have U:=He (d.set h0 9 (.int .i64 (f:Int)) { s.nd with x:=(f:Int) } { d.ok with x:=(show i64 (f:Int) by constructor <;> (have:=a3.out;omega)) } (fun iv=>rfl));clear d;generalize w4.setCell ⟨ob,9,none⟩ (.int .i64 (f:Int))=w5 at *;go_wp2_with fail
         go_meet
         case rel=>exact ⟨false,y,{ s.nd with x:=(f:Int) },rfl,U.out,by rw [b.out];rfl⟩
        ·rw [if_neg a] at b;simp only [if_neg a,decide_eq_false a] at g;clear a;go_wp2_with fail
         refine g.out.mono ?_;rintro e w3 ⟨rfl,w4,d,rfl⟩;have U:=He d;clear d;go_wp2_with fail
         go_meet
         case rel=>exact ⟨true,y,s.nd,rfl,U.out,by rw [b.out];rfl⟩
   case rest =>
    obtain ⟨bad,y,n1,rfl,V,b⟩:=hcut;obtain ⟨w6,rfl⟩:∃ w6,w6=wc:=⟨wc,rfl⟩
    clear p;cases bad with
    | true =>
      rw [if_pos rfl] at b;go_wp2_with fail
      go_ret;exact ⟨by rw [l.out,b.out];rfl,pv,by rw [l.out,b.out];exact V.out⟩
    | false =>
      rw [if_neg Hd] at b;have g:=He (uG V.out h1 A na (fun W' d=>by
       have:=d.cP k hk;rw [<- M.out] at this;exact ⟨⟨_,this.1⟩,this.2.1⟩))
      unfold own2 at b;dsimp only at b;obtain ⟨T2,X⟩:∃ T2,T2=gf (C.N s.P) y:=⟨_,rfl⟩
      obtain ⟨f,hf⟩:∃ f,f=j6 C.bn s.P y:=⟨_,rfl⟩
      rw [<- X,<- hf] at g;rw [<- X,<- hf] at b;clear X hf;by_cases a:f<C.n
      case neg =>
       rw [if_neg a] at b;simp only [if_neg a,decide_eq_false a] at g;clear a;go_wp2_with fail
       refine g.out.mono ?_;rintro e w7 ⟨rfl,w8,d,rfl⟩;have a4:=He d;clear d;go_wp2_with fail
       go_ret;exact ⟨by rw [l.out,b.out];rfl,pv,by rw [l.out,b.out];exact a4.out⟩
      rw [if_pos a] at b;simp only [if_pos a,decide_eq_true a] at g;have Y:i64 (f:Int):=by constructor <;> omega
      have a5:=He Y;clear a;go_wp2_with fail
      refine g.out.mono ?_;rintro e w7 ⟨rfl,w8,d,rfl⟩;have z:=d.setP h0 k hk (f:Int) Y;rw [<- M.out] at z;obtain ⟨q,o⟩:∃ q,q=fO n1 s.ix k (f:Int):=⟨_,rfl⟩
      have an:fw q.1 q.2 k=f:=by rw [o];exact IT d.il k hk f
      rw [<- o] at z b;have Z:=He z;have a6:=He an;clear d z o an g V Y;generalize w8.setCell na (.int .i64 (f:Int))=w9 at *;go_upto_region 9 with fail
      have c0:∀ W,Below w9.heap.size w9 W->W.cell? ⟨ob,0,none⟩=some (.pointer (some ⟨C.tb,0,none⟩)):=fun W i=>(Z.out.below i).c 0;have cn:∀ W,Below w9.heap.size w9 W->W.cell? na=some (.int .i64 f):=fun W i=>by
       have:=((Z.out.below i).cP k hk).1;rw [a6.out,<- M.out] at this;exact this
      have srefl:∀ W:World,W.grownBy W none:=fun W=>World.grownBy.refl _ _;refine dS (fun _ W=>Below w9.heap.size w9 W) (fun _ w w'=>w.grownBy w' none) (Below.refl _ _).drew ?_;refine xr ?_;refine XK.last ?_;intro W' L g1 g2 hJ;simp only [ny,forall_eq,List.setIfInBounds_toArray,List.set_cons_succ,List.set_cons_zero];have HP:=He ((Z.out.below hJ).put (f:Int) a5.out dH FT Ha);change Hid (Calls Tryz.prog _ #[_,_,.agg (ab 4 az)] _ _) at HP;clear c0 cn srefl;go_wp2_with fail
      refine HP.out.mono ?_;rintro e bb ⟨rfl,a7,d⟩;have H:=He d;have hl:=sp C.bn s.P (f:Int) dH;generalize pT C.bn s.P (f:Int) dH=P1 at *;clear d HP;cases b4 with
      | false =>
        rw [if_neg (fun h=>by have:=u.out;rw [decide_eq_true h] at this;cases this)] at b;clear hl;go_wp2_with fail
        go_ret;exact ⟨by rw [l.out,b.out];rfl,a7,by rw [l.out,b.out];exact H.out⟩
      | true =>
        rw [if_pos (of_decide_eq_true u.out.symm)] at b;have a0:=He (uI H.out h0 Ha);clear hl;go_wp2_with fail
        refine a0.out.mono ?_;rintro e bi ⟨rfl,a8,d⟩;have a1:=He d;clear d a0;go_wp2_with fail
        go_ret;exact ⟨by rw [l.out,b.out];rfl,a8,by rw [l.out,b.out];exact a1.out⟩
end
theorem Dz (w:World):Calls Tryz.prog 203 #[.int .u64 1,.int .u64 16] w fun e w'=>e=.returned (.tuple #[.int .u64 0,.int .u64 16])/\w=w':=by
 go_enter Tryz.func203,Tryz.ntmps203;go_wp2
 go_ret2
 exact ⟨rfl,rfl⟩
theorem IU (w:World):Calls Tryz.prog 173 #[.int .u64 1,.int .u64 16] w fun e w'=>e=.returned (.tuple #[.int .u64 0,.int .u64 16])/\w=w':=by
 have H:=He (Dz w);go_enter Tryz.func173,Tryz.ntmps173;go_wp2_with fail
 refine H.out.mono ?_;rintro e w' ⟨rfl,rfl⟩;go_wp2_with fail
 go_ret2
 exact ⟨rfl,rfl⟩
def lO (n:Nat):List Int:=List.replicate n (-1)++List.replicate (16-n) 0
theorem FV {n:Nat} (h:n<=16):(lO n).length=16:=by unfold lO;simp;omega
theorem uJ (w:World) (ty:TypeId) (g n m:Nat) (e b f:Nat) (c:Addr) (i:n+m<=16) (k:m=min b (16-n)) (l:w.heap[g]?=some (.cells (Is (lO n)).toArray 3 (0,0))) (o:∀ j,j<m->w.cell? (c.add j)=some (.int .i64 (-1))) :
 (Builtin.copy_ #[33,33] ty #[.slice (some ⟨g,n,none⟩) (16-n) e,.slice (some c) b f]).run Tryz.prog w=.ok (goInt (m:Int)) (w.setRow g (Is (lO (n+m))).toArray):=by
 have a:=FV (n:=n) Ha;have h:=run_copy_row Tryz.prog w 33 33 ty 3 g n (16-n) e c b f (Is (lO n)).toArray 3 (Is (List.replicate m (-1))) Tryz.underlying33 Jt l (by rw [cy,List.length_replicate];exact k)
  (fun j v hj=>by
    unfold Is at hj;rw [List.map_replicate,List.getElem?_replicate] at hj;split at hj
    ·rename_i d;injection hj with hj;subst hj;exact o j d
    ·cases hj) (by rw [cy,List.length_replicate,List.size_toArray,cy,a];exact i) (zh _)
 rw [h,cy,List.length_replicate]
 congr 3
 unfold Is lO;rw [List.map_append,List.take_append,List.drop_append];simp only [List.map_append,List.map_replicate,List.take_replicate,List.length_replicate,List.drop_replicate];rw [show min n n=n by omega,show n-n=0 by omega,show n-(n+m)=0 by omega,show n+m-n=m by omega];simp only [Nat.zero_min,List.replicate_zero,List.append_nil,List.nil_append];rw [<- List.replicate_append_replicate,show 16-n-m=16-(n+m) by omega]
theorem sr {ops:Array Oper} {rest:List Oper} {o:Oper} {a:Act} {w:World} {Q:Exit->Act->World->Prop} (b:o.guard=none) (x y:Operand) (g:o.op=.makeSlice 33 x y) (i:a.eval x=.int .i64 16) (j:a.eval y=.int .i64 16)
 (h:wpList Tryz.prog ops Q rest (a.put o.dst (.slice (some ⟨w.heap.size,0,none⟩) 16 16)) (w.alloc (.cells (Is (lO 0)).toArray 3))):wpList Tryz.prog ops Q (o :: rest) a w:=by
 obtain ⟨k,l,c,d,e⟩:=info_parts AO;refine wpList_plain b fun _ m=>jT ?_ (m _ _ h);have f:=run_make (P:=Tryz.prog) w 33 3 k _ Tryz.underlying33 l c .i64 .i64 16 16 Ha Ha (by rw [e];decide) Ha;rw [d,show (16:Int).toNat=16 from rfl,Nat.mul_one,Fb] at f;unfold execOp;simp only [g,i,j,Sem.run_bind,f,Result.andThen_ok,Sem.run_pure];rfl
def KG (w0:World) (g n:Nat) (L7:Bool) (W:World):Prop:=if L7=true then W=w0.setRow g (Is (lO (n+n))).toArray else W=w0
theorem IV (w:World) (a:Addr) (u:w.cell? a=some (.int .i64 (-1))):Calls Tryz.prog 132 #[.slice (some a) 1 1,.int .i64 16] w fun e w'=>∃ g,e=.returned (.slice (some ⟨g,0,none⟩) 16 16)/\w'.ownsRow w.heap.size 3 1 (.slice (some ⟨g,0,none⟩) 16 16) 16 (Is (List.replicate 16 (-1)))/\Below w.heap.size w w':=by
 have x:=He (IU w);go_enter Tryz.func132,Tryz.ntmps132;go_wp2_with fail
 refine x.out.mono ?_;rintro e w' ⟨rfl,rfl⟩;have o:=heap_alloc_new w (.cells (Is (lO 0)).toArray 3);have q:=aM (w:=w) (.cells (Is (lO 0)).toArray 3);go_upto_region 7 with (refine sr rfl (.tmp 29) (.tmp 29) rfl rfl rfl ?_)
 have r:w.heap.size<=w.heap.size:=Nat.le_refl _;have k:=cO q u;generalize w.alloc (.cells (Is (lO 0)).toArray 3)=y at *;obtain ⟨g,z⟩:∃ g,g=w.heap.size:=⟨_,rfl⟩
 have l:w.heap.size<=g:=Ha;rw [<- z] at o ⊢;have f:=He l;clear z r l u x;have b:=uJ y 3 g 0 1 16 1 1 a Ha Ha o (fun j hj=>by
  obtain rfl:j=0:=Ha;rw [show a.add 0=a by unfold Addr.add;simp];exact k)
 have c:=He (below_setRow q f.out (Is (lO (0+1))).toArray);have d:=He (am (D:=(Is (lO (0+1))).toArray) o);clear o q k;go_wp2_with (first | (refine fN rfl _ _ 33 33 rfl _ _ rfl rfl b ?_))
 clear b;generalize y.setRow g (Is (lO (0+1))).toArray=O at *
 go_loopw [8] (fun i wr=>∃ n:Nat,(n=1\/n=2\/n=4\/n=8\/n=16)/\i=.int .i64 n/\Hid (wr.heap[g]?=some (.cells (Is (lO n)).toArray 3 (0,0)))/\Hid (Below w.heap.size w wr)) (fun i _=>16-(intOf i).toNat)
 case atStart=>exact ⟨1,.inl rfl,rfl,d,c⟩
 case round =>
  obtain ⟨n,B,rfl,p,HB⟩:=hrel;clear d c;by_cases m:n=16
  ·subst m;go_wp2_with fail
   go_ret;exact ⟨g,rfl,⟨rfl,.inr ⟨g,16,_,rfl,f.out,p.out,Hd,Hd,rfl,Hc⟩⟩,HB.out⟩
  have C:1<=n/\n<=8:=Ha;have H:(n:Int)<16:=Ha;have R:n<=16:=Ha;have S:(n:Int)<=16:=Ha;have U:¬ 16=n:=Ha;have V:¬ 16<=n:=Ha;have I:Hid (n=1\/n=2\/n=4\/n=8):=by unfold Hid;omega
  have X:IntKind.i64.wrap ((n:Int)+n)=n+n:=by rw [IntKind.wrap_i64];omega
  clear B m;go_upto_region 9 with fail
  have b:=uJ wr.drew 3 g n n (16-n) n 16 ⟨g,0,none⟩ Ha Ha p.out (fun j hj=>by
   rw [dU];refine (af (W:=wr.drew) p.out j).trans ?_;rw [List.getElem?_toArray];exact wI (by unfold lO;rw [List.getElem?_append_left (by simpa using hj),List.getElem?_replicate,if_pos hj]))
  have srefl:∀ W:World,True:=fun _=>trivial;refine dS (fun L W=>KG wr.drew g n (L 7) W) (fun _ _ _=>True) rfl ?_;refine xr ?_;refine XK.op (fun v _=>v=.int .i64 n) (fun _ _ _ _ _ _ h _=>h) (fun T W L hag K hJ M hd=>?_) ?_
  ·obtain ⟨s,t,_⟩:=hd;unfold KG at hJ;rw [K] at hJ;subst hJ;exact sh _ _ 33 33 rfl _ _ s t b ⟨_,rfl,rfl,rfl,trivial⟩
  refine xr ?_;refine XK.last ?_;intro A L N Y hJ;simp only [ny,forall_eq,List.setIfInBounds_toArray,List.set_cons_succ,List.set_cons_zero];unfold KG at hJ;rw [N 7 Ha,if_pos rfl] at hJ;have d:Hid (A.heap[g]?=some (.cells (Is (lO (n+n))).toArray 3 (0,0))):=by rw [hJ];exact am (w:=wr.drew) p.out
  have c:Hid (Below w.heap.size w A):=by rw [hJ];exact below_setRow HB.out.drew f.out _
  clear hJ b;go_wp2_with fail
  go_roundw
  case rel=>exact ⟨n+n,by have:=I.out;omega,by go_num,d,c⟩
  case measure=>simp [intOf];omega
theorem KH (tb:Nat) (t:Int) (nd:Nd):Tryz.prog.built 157 [(0,.pointer (some ⟨tb,0,none⟩)),(1,.int .i64 t),(2,.agg (bF nd))]=some (BO tb t nd (.slice none 0 0)):=Hc
theorem tm {ops:Array Oper} {rest:List Oper} {o:Oper} {a:Act} {w:World} {Q:Exit->Act->World->Prop} (b:o.guard=none) (x y z:Operand) (tb:Nat) (t:Int) (nd:Nd) (c:o.op=.build 157 #[(0,x),(1,y),(2,z)]) (d:a.eval x=.pointer (some ⟨tb,0,none⟩)) (e:a.eval y=.int .i64 t) (f:a.eval z=.agg (bF nd))
 (h:wpList Tryz.prog ops Q rest (a.put o.dst (.agg (BO tb t nd (.slice none 0 0)))) w):wpList Tryz.prog ops Q (o :: rest) a w :=
 wpList_plain b fun _ g=>jT (by
  unfold execOp;have i:=run_build (P:=Tryz.prog) w 157 #[(0,.pointer (some ⟨tb,0,none⟩)),(1,.int .i64 t),(2,.agg (bF nd))] _ (KH tb t nd);simp only [c,List.map_toArray,List.map_cons,List.map_nil,d,e,f,Sem.run_bind,i,Result.andThen_ok,Sem.run_pure]) (g _ _ h)
def gh (x:Bk):Prop:=aX x.k x.bs/\x.k=1
def ixOf (y:Bk):List Int:=if pU y.k y.bs=true then tkL y.k y.bs else List.replicate 16 (-1)
theorem IW (y:Bk):(ixOf y).length=16/\∀ p∈ixOf y,i64 p:=by
 unfold ixOf;split
 ·rename_i h;unfold tkL;rw [if_pos h];unfold pU at h;rw [Bool.and_eq_true] at h;exact ⟨dq _,fun p a=>by have:=lC h.1 p a;constructor <;> omega⟩
 ·exact ⟨Hb,fun p a=>by rw [List.eq_of_mem_replicate a];constructor <;> decide⟩
structure DR (C:TC) (W0:World) (o0:Option Nat) (W:World) (pv:Value) (P:List Wr) (T:List Bool) (p6:Nat) (x:Bk):Prop where
 k:C.K W pv P T
 s:dJ C W0 o0 W pv.ownBlock
 b6:W.heap[p6]?=some (.cells (ab x.k x.bs) 37 (0,0))
 l6:W0.heap.size<=p6
 f6:¬ C.F p6
section
variable {C:TC} {G:Nat->Obj->Prop} {W0 W W':World} {o0:Option Nat} {pv:Value} {P:List Wr} {T:List Bool} {p6 ob:Nat} {x y:Bk} {t:Int} {nd:Nd} {iv:Value}
theorem DR.below (h:DR C W0 o0 W pv P T p6 x) (a:Below W.heap.size W W'):DR C W0 o0 W' pv P T p6 x:=⟨h.k.below a,h.s.below a,kb a h.b6,h.l6,h.f6⟩
theorem DR.store (h:DR C W0 o0 W pv P T p6 x) (a:C.w0.heap.size<=W0.heap.size) (y:Bk):DR C W0 o0 (W.setRow p6 (ab y.k y.bs)) pv P T p6 y :=
 ⟨h.k.cell (ct _ _ _) h.b6 Hd Hd Hd Hd Hd h.f6 (Nat.le_trans a h.l6),h.s.own (ct _ _ _) (.inl h.l6),am h.b6,h.l6,h.f6⟩
theorem KT.wkN (h:C.K W pv P T) (a:Int):(gB (C.N P) a).Wk:=by
 unfold gB ik;split
 ·rw [List.getD];cases b:(C.N P)[a.toNat]? with
  | none=>exact ⟨Hd,ak,fc⟩
  | some y=>exact (fun h=>⟨h.1,h.2.1,h.2.2⟩) (h.ks.wk y (List.mem_of_getElem? b))
 ·exact ⟨Hd,ak,fc⟩
theorem wn {w:World} {B e sz n:Nat} {v:Value} {xs:List Value} (h:w.ownsRow B e sz v n xs):∃ A cap,v=.slice A n cap:=by
 rcases h.2 with ⟨rfl,rfl⟩ | ⟨g,cap,a,e,_⟩
 ·exact ⟨_,_,rfl⟩
 ·exact ⟨_,_,e⟩
theorem yI {w:World} {B c e sz n:Nat} {v:Value} {xs:List Value} (h:w.ownsRow B e sz v n xs) (d:c<=B):w.ownsRow c e sz v n xs :=
 ⟨h.1,h.2.imp id fun ⟨g,a,b,f,i,j⟩=>⟨g,a,b,f,Nat.le_trans d i,j⟩⟩
theorem DR.done (h:DR C W0 o0 W pv P T p6 x) (n:C.w0.heap.size<=W0.heap.size) (hd:W.heap[ob]?=some (.cells (BO C.tb t nd iv) 157 (0,0))) (a:W0.heap.size<=ob) (b:¬ C.F ob) (d:jY nd) (o:i64 t) {l:List Int} {v:Value} {B:Nat} (f:W.ownsRow B 3 1 v 16 (Is l)) (q:W0.heap.size<=B) (i:∀ k,B<=k->¬ C.F k) (r:l.length=16) (u:∀ p∈l,i64 p):∃ ib cap,FS C Gx W0 o0 (W.setCell ⟨ob,11,none⟩ v) pv P T ob t nd ib cap l:=by
 have c:=bw W ob 11 v;obtain ⟨ib,cap,j,m⟩:∃ ib cap,v=.slice (some ⟨ib,0,none⟩) 16 cap/\B<=ib:=by
  rcases f.2 with ⟨_,e⟩ | ⟨g,cap,w,e,c,_⟩
  ·cases e
  ·exact ⟨g,cap,e,c⟩
 subst j;obtain ⟨Z,y⟩:=bU f rfl;exact ⟨ib,cap,h.k.cell c hd Hd Hd Hd Hd Hd b (Nat.le_trans n a),h.s.own c (.inl a),(ai hd _).trans rfl,yI (fh f fun k e=>by injection e with e;subst e;exact heap_setCell_other _ _ _ _ (bc y hd Hd)) q,a,b,i _ m,d,r,u,o,fun _ _ h=>h.elim⟩
theorem DR.cell (h:DR C W0 o0 W pv P T p6 x) (c:C.w0.heap.size<=W0.heap.size) (hd:W.heap[ob]?=some (.cells (BO C.tb t nd iv) 157 (0,0))) (a:W0.heap.size<=ob) (b:¬ C.F ob) (u:Value):DR C W0 o0 (W.setCell ⟨ob,11,none⟩ u) pv P T p6 x/\(W.setCell ⟨ob,11,none⟩ u).heap[ob]?=some (.cells (BO C.tb t nd u) 157 (0,0)) :=
 ⟨⟨h.k.cell (bw W ob 11 u) hd Hd Hd Hd Hd Hd b (Nat.le_trans c a),h.s.own (bw W ob 11 u) (.inl a),br (bw W ob 11 u) h.b6 (fun e=>by injection e with e;exact bc h.b6 hd Hd e.symm),h.l6,h.f6⟩,(ai hd u).trans rfl⟩
theorem mq (h:C.K W pv P T) (h0:C.w0.heap.size<=W.heap.size) (t:Int) (ht:i64 t) (x:Bk) (hx:x=gB (C.N P) t) (nd:Nd) (V:nd=bo x.k x.bs) (ix:List Int) (a9:ix=ixOf (gB (C.N P) nd.x)):Calls Tryz.prog 71 #[.pointer (some ⟨C.tb,0,none⟩),.int .i64 t] W fun e w' =>
 (¬ gh x->e=.returned (.tuple #[.pointer none,.bool false])/\Below W.heap.size W w')/\(gh x->∃ ob ib cap,e=.returned (.tuple #[.pointer (some ⟨ob,0,none⟩),.bool true])/\FS C Gx W pv.ownBlock w' pv P T ob t nd ib cap ix):=by
 have X:=He (h.get1 t ht);rw [<- hx] at X;have r:=He (h.wkN t);rw [<- hx] at r;have HK:=He h;have HX:=He hx;have bb:=He (fun k (hk:W.heap.size<=k)=>h.tv.new hk);have HT:=He ht;have Y:Hid (jY nd):=by rw [V];exact xW r.out.len r.out.b
 have bi:=He (fun w=>uk x.k x.bs w r.out.k r.out.len r.out.b);rw [<- V] at bi;clear h hx ht V;go_enter Tryz.func71,Tryz.ntmps71;go_wp2_with fail
 refine X.out.mono ?_;rintro e n ⟨rfl,c⟩;have h6:=heap_alloc_new n (.cells (ab 0 az) 37);have u:Below W.heap.size W ((n.alloc (.cells (ab 0 az) 37)).setRow n.heap.size (ab x.k x.bs)):=c.trans ((below_setRow (aM (w:=n) (.cells (ab 0 az) 37)) (Nat.le_refl _) (ab x.k x.bs)).mono c.size);have HO:Hid (DR C W pv.ownBlock ((n.alloc (.cells (ab 0 az) 37)).setRow n.heap.size (ab x.k x.bs)) pv P T n.heap.size x):=⟨HK.out.below u,(dJ.refl _ _ _).below u,am h6,c.size,bb.out _ c.size⟩
 have Z:=He u;clear c u X;go_upto_region 2 with (first | (refine aq rfl rfl ?_) | (refine ap rfl (.tmp 6) (.tmp 15) rfl n.heap.size rfl x.k 0 x.bs az rfl r.out.len ak h6 ?_))
 clear h6;generalize (n.alloc (.cells (ab 0 az) 37)).setRow n.heap.size (ab x.k x.bs)=w2 at *;generalize n.heap.size=p6 at *;go_wp2_with (first | (refine aT rfl (.tmp 6) rfl p6 rfl x.k x.bs r.out.len HO.out.b6 ?_))
 refine (bi.out w2).mono ?_;rintro e M ⟨rfl,c⟩;have h8:=aV.new M nd0;have ad:Below w2.heap.size w2 ((M.alloc (.cells (bF nd0) 137)).setRow M.heap.size (bF nd)):=c.trans ((below_setRow (aM (w:=M) (.cells (bF nd0) 137)) (Nat.le_refl _) (bF nd)).mono c.size);have an:=He (HO.out.below ad);have a0:=He (h8.set nd);have i:=He (Z.out.trans (ad.mono Z.out.size));clear c ad HO Z;go_upto_region 3 with (first | (refine bC rfl rfl ?_) | (refine aN rfl (.tmp 8) (.tmp 20) rfl M.heap.size rfl nd nd0 rfl h8 ?_))
 clear h8;generalize (M.alloc (.cells (bF nd0) 137)).setRow M.heap.size (bF nd)=w4 at *;generalize M.heap.size=p8 at *;have b4:w4.cell? ⟨p6,0,none⟩=some (.int .i64 x.k):=(af an.out.b6 0).trans rfl;by_cases O:aX x.k x.bs
 case neg =>
  have R:¬ gh x:=fun h=>O h.1;have HF:=He R;rw [decide_eq_false O];clear R O;go_wp2_with fail
  go_ret2
  exact ⟨fun _=>⟨rfl,i.out⟩,fun h=>absurd h HF.out⟩
 by_cases h1:x.k=1
 case neg =>
  have R:¬ gh x:=fun h=>h1 h.2;have HF:=He R;rw [decide_eq_true O];clear R O;go_wp2_with fail
  go_ret2
  exact ⟨fun _=>⟨rfl,i.out⟩,fun h=>absurd h HF.out⟩
 have R:gh x:=⟨O,h1⟩
 have HF:=He R;rw [decide_eq_true O];clear R O;go_upto_region 5 with (rw [h1])
 clear b4 h1;have bk:=heap_alloc_new w4 (.cells (BO C.tb t nd (.slice none 0 0)) 157);have z:=aM (w:=w4) (.cells (BO C.tb t nd (.slice none 0 0)) 157);have A:=He (an.out.below z);have bl:=He (a0.out.below z);have B:Hid (W.heap.size<=w4.heap.size):=i.out.size;have cb:=He (i.out.trans (z.mono i.out.size));have a1:=He bk;clear bk z;go_upto_region 6 with (first
  | (refine aZ rfl (.tmp 8) rfl p8 rfl nd a0.out ?_)
  | (refine tm rfl (.tmp 29) (.tmp 30) (.tmp 31) C.tb t nd rfl rfl rfl rfl ?_))
 clear an a0 i;generalize w4.alloc (.cells (BO C.tb t nd (.slice none 0 0)) 157)=w5 at *;generalize w4.heap.size=ob at *;have b5:w5.cell? ⟨p8,7,none⟩=some (.int .i64 nd.x):=(af bl.out 7).trans rfl;obtain ⟨y,hy⟩:∃ y,y=gB (C.N P) nd.x:=⟨_,rfl⟩
 have X:=He (A.out.k.get1 nd.x Y.out.x);have HY:=He (A.out.k.wkN nd.x);rw [<- hy] at X HY;have a2:Hid (ix=ixOf y):=by rw [hy];exact a9
 clear hy a9;go_wp2_with fail
 refine X.out.mono ?_;rintro e w6 ⟨rfl,c⟩;have H:=He (A.out.below c);have I:=He (H.out.store h0 y);have bn:Hid ((w6.setRow p6 (ab y.k y.bs)).heap[ob]?=some (.cells (BO C.tb t nd (.slice none 0 0)) 157 (0,0))):=br (ct _ _ _) (Go.Proofs.YtegjelaejbacnaaGreat.kb c a1.out) (fun e=>by injection e with e;exact bc H.out.b6 (Go.Proofs.YtegjelaejbacnaaGreat.kb c a1.out) Hd e);clear c A bl b5 X a1;go_upto_region 7 with (first | (refine ap rfl (.tmp 6) (.tmp 39) rfl p6 rfl y.k x.k y.bs x.bs rfl HY.out.len r.out.len H.out.b6 ?_))
 clear H;generalize w6.setRow p6 (ab y.k y.bs)=w7 at *;have b8:=He (rR y.k y.bs w7 HY.out.len HY.out.b);go_wp2_with (first | (refine aT rfl (.tmp 6) rfl p6 rfl y.k y.bs HY.out.len I.out.b6 ?_))
 have bt:=He (fun k (hk:w7.heap.size<=k)=>I.out.k.tv.new hk);have b9:=He I.out.s.sz;have a3:Hid (¬ C.F ob):=bb.out _ B.out;refine b8.out.mono ?_;rintro e w8 ⟨v,rfl,a,c⟩;have a4:=He (I.out.below c);have d:=Go.Proofs.YtegjelaejbacnaaGreat.kb c bn.out;obtain ⟨A8,L,bx⟩:=wn a;have o:=He d;have a5:w8.cell? ⟨ob,11,none⟩=some (.slice none 0 0):=(af d 11).trans rfl;have a6:=aA d 11;obtain ⟨lt,j⟩:∃ lt,lt=(tkL y.k y.bs).length:=⟨_,rfl⟩
 rw [<- j] at bx;subst bx;cases hq:pU y.k y.bs with
 | true =>
   have f:ix=tkL y.k y.bs:=by rw [a2.out];unfold ixOf;rw [if_pos hq]
   have q:=IW y;rw [<- a2.out] at q;rw [<- f] at a j;rw [q.1] at j a;subst j;obtain ⟨ib,cap,m⟩:=a4.out.done h0 o.out B.out a3.out Y.out HT.out a b9.out bt.out q.1 q.2;have a7:=He m;clear m a q f hq c d;go_wp2_with fail
   generalize w8.setCell ⟨ob,11,none⟩ (.slice A8 16 L)=w9 at *;go_wp2_with fail
   go_ret2
   exact ⟨fun h=>absurd HF.out h,fun _=>⟨ob,ib,cap,rfl,a7.out⟩⟩
 | false =>
   have f:ix=List.replicate 16 (-1):=by rw [a2.out];unfold ixOf;rw [if_neg (by rw [hq];decide)]
   have HI:=He f;have b0:=He (a4.out.cell h0 o.out B.out a3.out (.slice A8 lt L));have cc:=He j;clear a f hq c d j;go_upto_region 9 with fail
   clear a5 a6 o a4;generalize w8.setCell ⟨ob,11,none⟩ (.slice A8 lt L)=w9 at *;have b1:=aM (w:=w9) (.cells #[.int .i64 (-1)] 3);have ca:=He (IV (w9.alloc (.cells #[.int .i64 (-1)] 3)) ⟨w9.heap.size,0,none⟩ ((af (heap_alloc_new _ _) 0).trans rfl));have a8:=He (b0.out.1.below b1);have b2:=He (Go.Proofs.YtegjelaejbacnaaGreat.kb b1 b0.out.2);go_wp2_with fail
   refine ca.out.mono ?_;rintro e wa ⟨gr,rfl,a,c⟩;have b3:=a8.out.below c;have g:=Go.Proofs.YtegjelaejbacnaaGreat.kb c b2.out;have a5:wa.cell? ⟨ob,11,none⟩=some (.slice A8 lt L):=(af g 11).trans rfl;have a6:=aA g 11;have S:W.heap.size<=(w9.alloc (.cells #[.int .i64 (-1)] 3)).heap.size:=a8.out.s.sz;have U:∀ k,(w9.alloc (.cells #[.int .i64 (-1)] 3)).heap.size<=k->¬ C.F k:=fun k hk=>a8.out.k.tv.new hk;obtain ⟨ib,cap,m⟩:=b3.done h0 g B.out a3.out Y.out HT.out a S U (l:=List.replicate 16 (-1)) Hb (fun p hp=>by rw [List.eq_of_mem_replicate hp];constructor <;> decide);rw [<- HI.out] at m;have a7:=He m;clear b3 g a c S U m;go_upto_region 10 with fail
   generalize wa.setCell ⟨ob,11,none⟩ (.slice (some ⟨gr,0,none⟩) 16 16)=wb at *;clear a5 a6;go_wp2_with fail
   go_ret2
   exact ⟨fun h=>absurd HF.out h,fun _=>⟨ob,ib,cap,rfl,a7.out⟩⟩
end
def Fr (n k:Nat) (L:List Value) (a:Act):Prop:=∃ T,a=⟨T,[]⟩/\T.size=n+k/\T.toList.take n=L
theorem Fr.lit {n k:Nat} {L:List Value} {a:Act} (h:Fr n k L a):∃ u:Nat->Value,a=⟨(L++(List.range k).map u).toArray,[]⟩:=by
 obtain ⟨T,rfl,b,c⟩:=h;refine ⟨fun i=>T.getD (n+i) undef,?_⟩
 congr 1
 rw [<- c];apply Array.ext';rw [List.toList_toArray];apply List.ext_getElem?;intro i;have d:T.toList.length=n+k:=by simpa using b
 rw [List.getElem?_append];split
 ·rename_i h;rw [List.length_take] at h;rw [List.getElem?_take,if_pos Ha]
 ·rename_i h;rw [List.length_take] at h ⊢;rw [show min n T.toList.length=n by omega] at h ⊢;by_cases e:i<n+k
  ·rw [List.getElem?_map,List.getElem?_range Ha];simp only [Option.map_some];rw [show n+(i-n)=i by omega,Array.getElem?_toList,Array.getElem?_eq_getElem Ha,Array.getD_eq_getD_getElem?,Array.getElem?_eq_getElem Ha];rfl
  ·rw [List.getElem?_eq_none Ha,List.getElem?_eq_none (by simp;omega)]
def lenOf:Value->Nat
 | .slice _ n _=>n
 | _=>0
theorem LX:(Tryz.prog.info? 152).map (fun i=>(i.zero,i.size))=some (some (.agg (jt 0 0 0)),3):=Hc
section
variable {ops:Array Oper} {rest:List Oper} {o:Oper} {a:Act} {w:World} {Q:Exit->Act->World->Prop}
theorem j7 (b:o.guard=none) (e:o.op=.alloc 152)
 (h:wpList Tryz.prog ops Q rest (a.put o.dst (.pointer (some ⟨w.heap.size,0,none⟩))) (w.alloc (.cells (jt 0 0 0) 152))):wpList Tryz.prog ops Q (o :: rest) a w:=by
 obtain ⟨f,g,c,j⟩:∃ i,Tryz.prog.info? 152=some i/\i.zero=some (.agg (jt 0 0 0))/\i.size=3:=by
  have h:=LX;cases d:Tryz.prog.info? 152 with
  | none=>rw [d] at h;cases h
  | some i=>rw [d] at h;simp only [Option.map_some,Option.some.injEq,Prod.mk.injEq] at h;exact ⟨i,rfl,h.1,h.2⟩
 exact wpList_plain b fun _ k=>ce 152 e f _ g c (k _ _ h)
theorem j8 (b:o.guard=none) (x y:Operand) (c:o.op=.store 152 x y) (p:Nat) (d:a.eval x=.pointer (some ⟨p,0,none⟩)) (k f t e g i:Int) (j:a.eval y=.agg (jt k f t)) (l:w.heap[p]?=some (.cells (jt e g i) 152 (0,0)))
 (h:wpList Tryz.prog ops Q rest (a.put o.dst undef) (w.setRow p (jt k f t))):wpList Tryz.prog ops Q (o :: rest) a w :=
 wpList_store_row b 152 x y c p _ d j _ _ l zV rfl (by unfold jt;simp [Value.oneCell']) h
theorem kO (c:o.guard=none) (x:Operand) (d:o.op=.load 152 x) (g b:Nat) (e:a.eval x=.pointer (some ⟨g,b,none⟩)) (p:Pc) (f:w.rangeAt g b (encP p))
 (h:wpList Tryz.prog ops Q rest (a.put o.dst (.agg (jt p.1 p.2.1 p.2.2))) w):wpList Tryz.prog ops Q (o :: rest) a w :=
 wpList_load_mid c 152 x d g b e (encP p) _ f Tryz.underlying152 rfl zV h
end
def DB (W:World) (A:Option Addr) (c:Nat) (l:List Pc):Prop:=l.length<=c/\c<=9223372036854775807/\(l≠[]->∃ g b,A=some ⟨g,b,none⟩/\(∃ Z,W.heap[g]?=some (.cells Z 152 (0,0)))/\∀ i p,l[i]?=some p->W.rangeAt g (b+i*3) (encP p))
theorem DB.below {W W':World} {A:Option Addr} {c:Nat} {l:List Pc} (h:DB W A c l) (a:Below W.heap.size W W'):DB W' A c l :=
 ⟨h.1,h.2.1,fun d=>let ⟨g,b,e,⟨Z,hZ⟩,hr⟩:=h.2.2 d;⟨g,b,e,⟨Z,kb a hZ⟩,fun i p f j v hj=>cO a (hr i p f j v hj)⟩⟩
theorem wo {W:World} {B:Nat} {v:Value} {l:List Pc} (h:W.ownsRow B 152 3 v l.length (rowL encP l)):∃ A c,v=.slice A l.length c/\DB W A c l:=by
 rcases h.2 with ⟨e,b⟩ | ⟨g,a,d,e,_,f,j,k,_⟩
 ·exact ⟨none,0,by rw [e,b],Ha,Ha,fun m=>absurd (List.eq_nil_of_length_eq_zero b) m⟩
 ·subst e;refine ⟨_,a,rfl,j,by simp only [maxLen] at k;omega,fun _=>⟨g,0,rfl,⟨_,f⟩,fun i p n=>?_⟩⟩;have:=CG (CY l) h n (o:=0) (c:=3)
  rwa [List.drop_zero,show (encP p).take 3=encP p from rfl,Nat.add_zero,<- Nat.zero_add (i*3)] at this
def AF (C:BN) (P:List Wr) (nd:Nd) (ix:List Int) (l:List Pc):List Int:=l.flatMap fun p=>((gB (C.N P) (fw nd ix p.1)).bs.drop p.2.1).take (p.2.2-p.2.1)
theorem pw {off n:Int} {p:Pc} (h:p∈pcM off n):p.1<20/\p.2.1<p.2.2/\p.2.2<=56:=by
 unfold pcM at h;split at h
 ·rename_i e;unfold pL at h;obtain ⟨i,a,rfl⟩:=List.mem_map.1 h;rw [List.mem_range] at a;unfold Kh;have b:pN off.toNat (off+n).toNat=((off+n).toNat-1)/56-off.toNat/56+1:=by unfold pN at a ⊢;split at a;omega;rename_i c;rw [if_neg c]
  have d:off.toNat<(off+n).toNat:=by unfold pN at a;split at a <;> omega
  rw [b] at a ⊢;refine ⟨by show _<20;omega,?_,?_⟩
  ·dsimp only;split <;> split <;> omega
  ·dsimp only;split <;> omega
 ·cases h
theorem IX {x:Bk} (h:gh x):aS 1 (bo x.k x.bs):=by
 unfold bo;rw [if_pos h.1];have:=h.1.2.1
 rwa [h.2] at this
section
variable {C:TC} {G:Nat->Obj->Prop} {W0 W W':World} {o0:Option Nat} {pv:Value} {P:List Wr} {T:List Bool} {ob ib cap:Nat} {t:Int} {nd:Nd} {ix:List Int}
theorem FS.oth (h:FS C G W0 o0 W pv P T ob t nd ib cap ix) {r:Option Nat} (a:W.grownBy W' r) {ty:TypeId} (g:∀ j,r=some j->(∃ Z c,W.heap[j]?=some (.cells Z ty c))/\¬ C.F j/\W0.heap.size<=j) (i:∀ j,r=some j->∀ o,¬ G j o) (l:C.w0.heap.size<=W0.heap.size) (m:ty≠107) (n:ty≠197) (p:ty≠52) (q:ty≠118) (h5:ty≠113) (u:ty≠157) (v:ty≠3):FS C G W0 o0 W' pv P T ob t nd ib cap ix:=by
 cases r with
 | none=>exact h.below ⟨a.os,a.tape,a.output,a.size,fun k b=>a.block k b Hb⟩
 | some j =>
   obtain ⟨⟨Z,c,hj⟩,w,d⟩:=g j rfl;obtain ⟨Y,f⟩:=h.rb;exact { h with k:=h.k.cell a hj m n p q h5 w (Nat.le_trans l d),s:=h.s.own a (.inl d),hd:=br a h.hd (fun e=>by injection e with e;exact bc hj h.hd u e),row:=fh h.row fun k e=>by injection e with e;subst e;exact a.block _ (ah f) (fun e=>by injection e with e;exact bc hj f v e.symm),gd:=fun k o b=>let ⟨q1,q2⟩:=h.gd k o b;⟨br a q1 (fun e=>by injection e with e;subst e;exact i _ rfl o b),q2⟩ }
theorem DB.grown {A:Option Addr} {c:Nat} {l:List Pc} (h:DB W A c l) {r:Option Nat} (m:W.grownBy W' r) (n:∀ j,r=some j->∃ Z f,W.heap[j]?=some (.cells Z 5 f)):DB W' A c l :=
 ⟨h.1,h.2.1,fun o=>by
   obtain ⟨g,b,e,⟨Z,a⟩,d⟩:=h.2.2 o;have k:W'.heap[g]?=W.heap[g]?:=m.block g (ah a) (fun e=>by
    obtain ⟨Y,f,q⟩:=n g e.symm;exact bc a q Hd rfl)
   exact ⟨g,b,e,⟨Z,k.trans a⟩,fun i p s j v hj=>(af (k.trans a) _).trans ((af a _).symm.trans (d i p s j v hj))⟩⟩
theorem FW {w:World} {g:Nat} {k:Int} {bs:List Int} (h:w.heap[g]?=some (.cells (ab k bs) 37 (0,0))) (f r:Nat):dK w (some ⟨g,1+f,none⟩) ((bs.drop f).take r):=fun i y a=>by
 refine ⟨_,rfl,?_⟩;rw [cZ,af h];rw [List.getElem?_take] at a;split at a
 ·rw [List.getElem?_drop] at a;unfold ab blkL;rw [List.getElem?_toArray,show 1+f+i=(f+i)+1 by omega,List.getElem?_cons_succ];unfold Bs;rw [List.getElem?_map,a];rfl
 ·cases a
theorem KI {w:World} {B e sz n:Nat} {v:Value} {xs:List Value} (h:w.ownsRow B e sz v n xs) {k:Nat} (a:v.ownBlock=some k):B<=k:=by
 rcases h.2 with ⟨rfl,_⟩ | ⟨g,b,c,rfl,d,_⟩
 ·cases a
 ·injection a with a;subst a;exact d
def M5 (C:TC) (W:World) (pv:Value) (P:List Wr) (T:List Bool) (t off z:Int) (nd:Nd) (ix:List Int) (b:Act) (w':World):Prop :=
 ∃ (ob ib a:Nat) (l:List Pc) (A:Option Addr) (c:Nat) (v:Value) (d:List Int),Hid (FS C Gx W pv.ownBlock w' pv P T ob t nd ib a ix)/\Hid (DB w' A c l)/\Hid (w'.ownsRow W.heap.size 5 1 v d.length (Bs d))/\Hid ((∀ k,v.ownBlock=some k->¬ C.F k))/\Hid (d++AF C.bn P nd ix l=AF C.bn P nd ix (pcM off z))/\Hid (d.length<=56*(20-l.length)/\l.length<=20)/\Hid (∀ p∈l,p∈pcM off z)/\Fr 14 57 [.pointer (some ⟨C.tb,0,none⟩),.int .i64 t,.int .i64 off,.int .i64 z,undef,undef,undef,undef,.slice none 0 0,.int .i64 0,v,.slice A l.length c,.pointer (some ⟨ob,0,none⟩),.bool true] b
theorem FX (h:C.K W pv P T) (j:C.w0.heap.size<=W.heap.size) (t off n:Int) (l:i64 t) (p:i64 off) (q:i64 n) (x:Bk) (d:x=gB (C.N P) t) (nd:Nd) (b:nd=bo x.k x.bs) (ix:List Int) (c:ix=ixOf (gB (C.N P) nd.x)) (f:¬ gh x):Calls Tryz.prog 31 #[.pointer (some ⟨C.tb,0,none⟩),.int .i64 t,.int .i64 off,.int .i64 n] W fun e w'=>e=.returned (.tuple #[.slice none 0 0,.int .i64 2])/\Below W.heap.size W w':=by
 have m:=He (mq h j t l x d nd b ix c);have o:=He f;clear d b c f h;go_enter Tryz.func31,Tryz.ntmps31;go_wp2_with fail
 refine bq (fun _ _=>False) (fun _ _=>0) rfl ?_ (fun a w h=>h.elim);intro _;go_wp2_with fail
 refine m.out.mono ?_;rintro e r ⟨g,_⟩;obtain ⟨rfl,i⟩:=g o.out;have HB:=He i;clear g i;go_wp2_with fail
 simp only [Exit.jump]
 go_ret2
 exact ⟨rfl,HB.out⟩
theorem uK (h:C.K W pv P T) (h0:C.w0.heap.size<=W.heap.size) (t off n:Int) (ht:i64 t) (ho:i64 off) (hn:i64 n) (x:Bk) (hx:x=gB (C.N P) t) (nd:Nd) (a3:nd=bo x.k x.bs) (ix:List Int) (bx:ix=ixOf (gB (C.N P) nd.x)) (hf:gh x) (h1:0<=off) (h2:0<=n) (cz:off<=9223372036854775807):Calls Tryz.prog 31 #[.pointer (some ⟨C.tb,0,none⟩),.int .i64 t,.int .i64 off,.int .i64 n] W fun e w' =>
 ∃ v,e=.returned (.tuple #[v,.int .i64 0])/\w'.ownsRow W.heap.size 5 1 v (AF C.bn P nd ix (pcM off (min n (nd.s-off)))).length (Bs (AF C.bn P nd ix (pcM off (min n (nd.s-off)))))/\C.K w' pv P T/\dJ C W pv.ownBlock w' pv.ownBlock:=by
 have HO:=He (mq h h0 t ht x hx nd a3 ix bx);have HF:=He hf;have a4:=IX hf;rw [<- a3] at a4;have hs:0<=nd.s/\nd.s<=1120:=by
  rcases a4.2 with ⟨_,h,_⟩ | ⟨e,_⟩ | ⟨e,_⟩
  ·exact h
  ·cases e
  ·cases e
 obtain ⟨z,hz⟩:∃ z,z=min n (nd.s-off):=⟨_,rfl⟩
 rw [<- hz];obtain ⟨R,hR⟩:∃ R,R=AF C.bn P nd ix (pcM off z):=⟨_,rfl⟩
 rw [<- hR];have HR:=He hR;have HZ:=He hz;have hw:IntKind.i64.wrap (nd.s-off)=nd.s-off:=by rw [IntKind.wrap_i64];omega
 have cq:¬ off<0:=Ha;have cr:¬ n<0:=Ha;clear hx a3 bx hf a4 h hR hz;go_enter Tryz.func31,Tryz.ntmps31;go_wp2_with fail
 refine bq (M5 C W pv P T t off z nd ix) (fun a _=>lenOf (a.tmps.getD 11 undef)) rfl ?_ ?_
 ·intro HJ;go_wp2_with fail
  refine HO.out.mono ?_;rintro e w1 ⟨_,g1⟩;obtain ⟨ob,ib,M,rfl,a5⟩:=g1 HF.out;have HS:=He a5;have c4:w1.cell? ⟨ob,4,none⟩=some (.int .i64 nd.s):=a5.c 4;clear g1 a5;go_upto_region 8 with fail
  go_cut [3] (fun v wx=>v=.int .i64 z/\wx=w1)
  case first =>
   by_cases cA:nd.s-off<n
   ·have cs:nd.s-off=z:=by rw [HZ.out];omega
    go_wp2_with fail
    go_meet
    case rel=>exact ⟨rfl,rfl⟩
   ·have cs:n=z:=by rw [HZ.out];omega
    go_wp2_with fail
    go_meet
    case rel=>exact ⟨rfl,rfl⟩
  case rest =>
   obtain ⟨rfl,rfl⟩:=hcut;have HP:=He (nk off z wc (by constructor <;> omega) (by constructor <;> (have:=HZ.out;omega)));clear c4;go_wp2_with fail
   refine HP.out.mono ?_;rintro e w2 ⟨v,rfl,m,hb⟩;obtain ⟨A,c,rfl,b0⟩:=wo m;have o:=He (HS.out.below hb);have q:=He b0;clear m hb b0;go_wp2_with fail
   go_step3;rename_i hK;refine hK _ _ (HJ _ _ ⟨ob,ib,M,pcM off z,A,c,.slice none 0 0,[],o.out,q.out,⟨rfl,.inl ⟨rfl,rfl⟩⟩,(fun k e=>by cases e),by simp [Hid],⟨Nat.zero_le _,?_⟩,(fun p h=>h),⟨_,rfl,rfl,rfl⟩⟩);unfold pcM;split
   ·rw [dG];exact Bq _ _ Ha
   ·exact Nat.zero_le _
 ·rintro a' w' ⟨ob,ib,M,l,A,c,v,d,HS,q,HV,a6,HD,HL,HM,b1⟩;obtain ⟨u,rfl⟩:=b1.lit;simp only [List.range,List.range.loop,List.map_cons,List.map_nil,List.cons_append,List.nil_append];clear b1 HO HF cq cr hw;cases l with
  | nil =>
    have hd:d=R:=by have:=HD.out;rw [<- HR.out] at this;simpa [AF] using this
    subst hd;go_wp2_with (simp only [List.length_nil])
    simp only [Exit.jump]
    go_ret2
    exact ⟨v,rfl,HV.out,HS.out.k,HS.out.s⟩
  | cons p l =>
    obtain ⟨g,b,rfl,_,b2⟩:=q.out.2.2 Hb;have b3:Hid (w'.rangeAt g b (encP p)):=by have:=b2 0 p rfl;rwa [Nat.zero_mul,Nat.add_zero] at this
    obtain ⟨B,cu,ad⟩:=pw (HM.out p (List.mem_cons_self ..));have c0:1<=c:=by have:=q.out.1;simp at this;omega
    have c3:=q.out.2.1;obtain ⟨k,f,e⟩:=p;dsimp only at B cu ad;have a7:=heap_alloc_new w' (.cells (jt 0 0 0) 152);have O:Below w'.heap.size w' ((w'.alloc (.cells (jt 0 0 0) 152)).setRow w'.heap.size (jt k f e)):=below_setRow (aM (w:=w') (.cells (jt 0 0 0) 152)) (Nat.le_refl _) _;have H:=He (am (D:=jt k f e) a7);have o:=He (HS.out.below O);have an:=He (q.out.below O);have b4:=He (ic HV.out O);clear O b2;rw [List.length_cons];go_upto_region 13 with (first
     | (refine kO rfl (.tmp 48) rfl g b rfl (k,f,e) b3.out ?_)
     | (refine j7 rfl rfl ?_)
     | (refine j8 rfl (.tmp 14) (.tmp 49) rfl w'.heap.size rfl k f e 0 0 0 rfl a7 ?_))
    clear a7 HS q HV b3;generalize (w'.alloc (.cells (jt 0 0 0) 152)).setRow w'.heap.size (jt k f e)=w2 at *;generalize w'.heap.size=a8 at *;have b5:w2.cell? ⟨a8,0,none⟩=some (.int .i64 k):=(af H.out 0).trans rfl;have b6:=He (mp o.out k B);obtain ⟨cn,fn,cv⟩:=o.out.cP k B;have HG:=He (o.out.k.get1 _ cv);have S:=He (o.out.k.wkN (fw nd ix k));obtain ⟨y,hy⟩:∃ y,y=gB (C.N P) (fw nd ix k):=⟨_,rfl⟩
    rw [<- hy] at HG S;have HY:=He hy;generalize DQ ob ib k=na at *;clear hy;go_wp2_with fail
    refine b6.out.mono ?_;rintro r w3 ⟨rfl,rfl⟩;go_wp2_with fail
    refine HG.out.mono ?_;rintro r w4 ⟨rfl,hb⟩;have a9:=heap_alloc_new w4 (.cells (ab 0 az) 37);have I:Below w2.heap.size w2 ((w4.alloc (.cells (ab 0 az) 37)).setRow w4.heap.size (ab y.k y.bs)):=hb.trans ((below_setRow (aM (w:=w4) (.cells (ab 0 az) 37)) (Nat.le_refl _) (ab y.k y.bs)).mono hb.size);have a0:=He (am (D:=ab y.k y.bs) a9);have U:=He (o.out.below I);have a1:=He (an.out.below I);have V:=He (ic b4.out I);have L:=Go.Proofs.YtegjelaejbacnaaGreat.kb I H.out;clear hb I b5 cn fn H o an b4 b6 HG;go_upto_region 14 with (first | (refine aq rfl rfl ?_) | (refine ap rfl (.tmp 15) (.tmp 59) rfl w4.heap.size rfl y.k 0 y.bs az rfl S.out.len ak a9 ?_))
    clear a9;generalize (w4.alloc (.cells (ab 0 az) 37)).setRow w4.heap.size (ab y.k y.bs)=w5 at *;generalize w4.heap.size=p15 at *;have c1:w5.cell? ⟨a8,1,none⟩=some (.int .i64 f):=(af L 1).trans rfl;have c2:w5.cell? ⟨a8,2,none⟩=some (.int .i64 e):=(af L 2).trans rfl;have bb:=He (FW a0.out f (e-f));have X:Hid (((y.bs.drop f).take (e-f)).length=e-f):=by unfold Hid;rw [List.length_take,List.length_drop,S.out.len];omega
    obtain ⟨Y,bi⟩:∃ Y,Y=(y.bs.drop f).take (e-f):=⟨_,rfl⟩
    rw [<- bi] at bb X;have cw:=He bi;have b8:d.length+(e-f)<=1000000:=by have:=HL.out.1;omega
    have b9:W.heap.size<=w5.heap.size:=U.out.s.sz;clear bi L;go_upto_region 15 with (first
     | (refine mM rfl (.tmp 62) (.tmp 64) (.tmp 66) rfl p15 f e rfl rfl rfl Ha ad Ha ?_)
     | (refine cd w5 rfl (.tmp 61) (.tmp 67) rfl W.heap.size v d.length d rfl V.out (some ⟨p15,1+f,none⟩) (e-f) (56-f) Y rfl bb.out X.out b8 b9 ?_;intro v2 w6 q1 q2 q3;have ca:=He q1;have bk:=He q2;have cb:=He q3;clear q1 q2 q3))
    have m:∀ j,v.ownBlock=some j->(∃ Z,w5.heap[j]?=some (.cells Z 5 (0,0)))/\¬ C.F j/\W.heap.size<=j:=fun j hj=>⟨bU V.out hj,a6.out j hj,KI V.out hj⟩
    have cc:=He (U.out.oth bk.out (ty:=5) (fun j hj=>by obtain ⟨⟨Z,hZ⟩,h2,h3⟩:=m j hj;exact ⟨⟨Z,_,hZ⟩,h2,h3⟩) (fun _ _ _ h=>h.elim) h0 Hd Hd Hd Hd Hd Hd Hd);have a2:=He (a1.out.grown bk.out (fun j hj=>by obtain ⟨⟨Z,hZ⟩,_⟩:=m j hj;exact ⟨Z,_,hZ⟩));have cg:Hid (∀ k,v2.ownBlock=some k->¬ C.F k):=fun k hk=>by
     rcases cb.out with h | h
     ·exact a6.out k (h.symm.trans hk)
     ·rw [h] at hk;injection hk with hk;subst hk;exact U.out.k.tv.new (Nat.le_refl _)
    have ch:Hid ((d++Y)++AF C.bn P nd ix l=AF C.bn P nd ix (pcM off z)):=by
     unfold Hid;rw [<- HD.out,cw.out,HY.out,List.append_assoc];rfl
    have ci:Hid ((d++Y).length<=56*(20-l.length)/\l.length<=20):=by
     have h:=HL.out;simp only [List.length_cons] at h;unfold Hid;rw [List.length_append,X.out];omega
    have ck:Hid (∀ p∈l,p∈pcM off z):=fun p hp=>HM.out p (List.mem_cons_of_mem _ hp);have cl:Hid (w6.ownsRow W.heap.size 5 1 v2 (d++Y).length (Bs (d++Y))):=by unfold Hid;rw [List.length_append,X.out];exact ca.out
    have cx:=a2.out.1;simp only [List.length_cons] at cx;have cp:Hid (∀ (A:Option Addr) (c2:Nat),l.length<=c2->c2<=9223372036854775807->(l≠[]->A=some ⟨g,b+3,none⟩)->DB w6 A c2 l):=fun A c2 q1 q2 q3=>⟨q1,q2,fun hn=>by
     obtain ⟨g',b',e',hZ,hr⟩:=a2.out.2.2 Hb;injection e' with e';injection e' with e1 e2;subst e1 e2
     exact ⟨g,b+3,q3 hn,hZ,fun i p hp=>by have:=hr (i+1) p hp;rwa [show b+(i+1)*3=b+3+i*3 by omega] at this⟩⟩
    clear m c1 c2 a0 U a1 V bk cb a6 HD HM bb S b9 b8 ca;generalize w5=c5 at *;by_cases hc:c=1
    ·have bl:l=[]:=List.eq_nil_of_length_eq_zero Ha;have bt:=He (cp.out (some ⟨g,b,none⟩) 0 Ha Ha (fun h=>absurd bl h));have c6:l.length=0:=by rw [bl];rfl
     go_wp2_with fail
     subst bl;go_step3;exact ⟨rfl,⟨ob,ib,M,[],_,0,v2,d++Y,cc.out,bt.out,cl.out,cg.out,ch.out,ci.out,ck.out,⟨_,rfl,rfl,rfl⟩⟩,by simp [lenOf]⟩
    ·have bt:=He (cp.out (some ⟨g,b+3,none⟩) (c-1) Ha Ha (fun _=>rfl));have c7:¬ (c:Int)=1:=Ha;have c8:(1:Int)<=c:=Ha;go_wp2_with fail
     go_step3;exact ⟨rfl,⟨ob,ib,M,l,_,_,v2,d++Y,cc.out,bt.out,cl.out,cg.out,ch.out,ci.out,ck.out,⟨_,rfl,rfl,rfl⟩⟩,by simp [lenOf]⟩
end
end Go.Proofs.YtegjelaejbacnaaGreat
