/- For FileLong: contracts and facts, part 19. -/
import Derived.Laws.OwnMore
import Derived.Test.YtegjelaejbacnaaGreatL01
import Derived.Test.YtegjelaejbacnaaGreatL02
import Derived.Test.YtegjelaejbacnaaGreatL12
import Derived.Test.YtegjelaejbacnaaGreatL18
set_option maxRecDepth 100000
set_option maxHeartbeats 25600000
set_option linter.unusedSimpArgs false
set_option linter.unusedVariables false
open Go.ChangeShapes Go.WideShapes Go.ChangeAt Go.RowKit Go
namespace Go.Proofs.YtegjelaejbacnaaGreat
theorem r8 (k:Int) (w:World):Calls Tryz.prog 81 #[.int .i64 k] w fun e w'=>e=.returned (.bool (decide (ie k)))/\w=w':=by
 go_enter Tryz.func81,Tryz.ntmps81;by_cases a:k=1
 ·subst a;go_wp2_with fail
  go_ret;exact ⟨rfl,rfl⟩
 ·by_cases b:k=2
  ·subst b;go_wp2_with fail
   go_ret;exact ⟨rfl,rfl⟩
  ·by_cases c:k=3
   ·subst c;go_wp2_with fail
    go_ret;exact ⟨rfl,rfl⟩
   ·go_wp2_with fail
    go_ret;exact ⟨aj (by simp [ie,a,b,c]),rfl⟩
structure OI (w:World) (B:Nat) (v:Value) (l:List Int) (W:World):Prop where
 bel:Below w.heap.size w W
 le:w.heap.size<=B
 sz:B<=W.heap.size
 own:W.ownsRow B 3 1 v l.length (Is l)
theorem OI.below {w W W':World} {B:Nat} {v:Value} {l:List Int} (h:OI w B v l W) (a:Below W.heap.size W W'):OI w B v l W' :=
 ⟨h.bel.trans (a.mono h.bel.size),h.le,Nat.le_trans h.sz a.size,ic h.own a⟩
theorem OI.push {w W W':World} {B m:Nat} {v v':Value} {l a:List Int} (h:OI w B v l W) (c:W'.ownsRow B 3 1 v' m (Is a)) (d:m=a.length) (b:W.grownBy W' v.ownBlock):OI w B v' a W' :=
 ⟨h.bel.grown b h.bel.size (fun j e=>Nat.le_trans h.le (h.own.lt j e).1),h.le,Nat.le_trans h.sz b.size,by subst d;exact c⟩
theorem OI.start (w:World):OI w w.heap.size (.slice none 0 0) [] w:=⟨Below.refl _ _,Nat.le_refl _,Nat.le_refl _,⟨rfl,.inl ⟨rfl,rfl⟩⟩⟩
theorem OI.start' {w W:World} {B:Nat} (a:Below w.heap.size w W) (b:w.heap.size<=B) (c:B<=W.heap.size):OI w B (.slice none 0 0) [] W:=⟨a,b,c,⟨rfl,.inl ⟨rfl,rfl⟩⟩⟩
theorem OI.kb {w W W':World} {B:Nat} {v:Value} {l:List Int} {g:Nat} {o:Obj} (h:OI w B v l W) (b:W.grownBy W' v.ownBlock) (c:g<B) (a:W.heap[g]?=some o):W'.heap[g]?=some o:=by
 rw [b.block g (ah a) (fun e=>by have:=(h.own.lt g e.symm).1;omega)];exact a
theorem OI.mono {w W:World} {B C:Nat} {v:Value} {l:List Int} (h:OI w B v l W) (b:w.heap.size<=C) (a:C<=B):OI w C v l W:=⟨h.bel,b,Nat.le_trans a h.sz,h.own.mono a⟩
theorem OI.nts {w W:World} {B:Nat} {v:Value} {l:List Int} (h:OI w B v l W):∃ A d,v=.slice A l.length d/\l.length<=d/\d<=9223372036854775807/\jF W A l:=kC h.own rfl
theorem yu (A:Option Addr) (l:List Int) (n d:Nat) (w:World) (B:l.length=n) (K:n<=1000) (C:jF w A l) :
 Calls Tryz.prog 69 #[.slice A n d] w fun e w'=>∃ v,e=.returned v/\OI w w.heap.size v (realL l) w':=by
 have H:=He B;have L:=He C;have f:=He (OI.start w);clear B C;go_enter Tryz.func69,Tryz.ntmps69;go_wp2_with fail
 go_loopw [3,4] (fun v i wr=>∃ j:Nat,j<=n/\i=.int .i64 j/\Hid (OI w w.heap.size v (realL (l.take j)) wr)) (fun _ i _=>n-(intOf i).toNat)
 case atStart=>exact ⟨0,Ha,rfl,f⟩
 case round =>
  obtain ⟨j,hj,rfl,g⟩:=hrel;clear f;by_cases o:j<n
  ·obtain ⟨x,p⟩:∃ x,l[j]?=some x:=⟨_,List.getElem?_eq_getElem (by rw [H.out];exact o)⟩
   have q:Hid (∀ r,Below w.heap.size w r->jF r A l):=fun r M=>L.out.keep M;obtain ⟨a,rfl,O⟩:=q.out wr g.out.bel j x p;have N:(j:Int)<n:=Ha;have I:Hid (l.take (j+1)=l.take j++[x]):=aw p;have s:Hid ((realL (l.take j)).length<=1000):=by
    have t:=List.length_filter_le (fun x=>decide (x ≠ -1)) (l.take j);have u:(l.take j).length<=j:=by rw [List.length_take];omega
    show (realL _).length<=1000;unfold realL;omega
   clear p;by_cases h:x = -1
   ·subst h;go_wp2_with fail
    go_roundw
    case rel=>exact ⟨j+1,Ha,by go_num,by unfold Hid;rw [I.out,r5,if_pos rfl];exact g.out⟩
    case measure=>simp [intOf];omega
   ·have b:=He (g.out.below (aM (.cells (Is [x]).toArray 3)));have k:Hid (jF (wr.alloc (.cells (Is [x]).toArray 3)) (some ⟨wr.heap.size,0,none⟩) [x]):=vN (heap_alloc_new wr _);obtain ⟨m,c⟩:∃ m,m=wr.alloc (.cells (Is [x]).toArray 3):=⟨_,rfl⟩
    rw [<- c] at b k;have y:Hid (wr.alloc (.cells #[.int .i64 x] 3)=m):=c.symm;clear c;go_wp2_with (first
     | (at_builtin
        rw [y.out]
        go_loud (refine dC m rfl (.tmp 16) (.tmp 21) rfl w.heap.size u3 _ _ rfl b.out.own (some ⟨wr.heap.size,0,none⟩) 1 1 [x] rfl k.out rfl (by have:=s.out;omega) b.out.sz ?_)
        intro R S t u _;have z:=He (b.out.push t Hb u);clear t u b))
    go_roundw
    case rel=>exact ⟨j+1,Ha,by go_num,by unfold Hid;rw [I.out,r5,if_neg h];exact z.out⟩
    case measure=>simp [intOf];omega
  ·obtain rfl:j=n:=Ha;have e:l.take j=l:=List.take_of_length_le (by rw [H.out];exact Nat.le_refl _);rw [e] at g;go_wp2_with fail
   go_ret;exact ⟨_,rfl,g.out⟩
theorem rv.at_ {w:World} {g:Nat} {b:List Bk} (h:rv w (some ⟨g,0,none⟩) b) {i:Nat} {x:Bk} (a:b[i]?=some x):w.rangeAt g (i*57) (blkL x.k x.bs):=by
 obtain ⟨d,e,c⟩:=h i x a;injection e with e;injection e with e;subst e;exact c
theorem rv.kind {w:World} {g:Nat} {b:List Bk} (h:rv w (some ⟨g,0,none⟩) b) {i:Nat} {x:Bk} (a:b[i]?=some x):w.cell? ⟨g,i*57,none⟩=some (.int .i64 x.k):=by
 have c:=h.at_ a 0 (.int .i64 x.k) rfl
 rwa [Nat.add_zero] at c
theorem bT {x:Bk} (h:x.bs.length=56):(Tryz.prog.info? 37).map (·.size)=some (blkL x.k x.bs).length:=by rw [bf h];exact db
theorem ox (l:List Int):(realL l).length<=l.length:=List.length_filter_le _ _
theorem Fy (k:Int) (bs:List Int):(tkL k bs).length<=16:=by unfold tkL;split;rw [dq];exact Nat.le_refl _;exact Nat.zero_le _
theorem BE (b:List Bk) (x:Int):(mw b x).length<=16:=by
 unfold mw;split
 ·exact Nat.le_trans (ox _) (Fy _ _)
 ·exact Nat.zero_le _
structure DO (w:World) (p:Nat) (n:Nd) (v:Value) (l:List Int) (W:World):Prop where
 oi:OI w (p+1) v l W
 at_:aV W p n
theorem DO.below {w W W':World} {p:Nat} {n:Nd} {v:Value} {l:List Int} (h:DO w p n v l W) (a:Below W.heap.size W W'):DO w p n v l W':=⟨h.oi.below a,kb a h.at_⟩
theorem DO.push {w W W':World} {p m:Nat} {n:Nd} {v v':Value} {l a:List Int} (h:DO w p n v l W) (c:W'.ownsRow (p+1) 3 1 v' m (Is a)) (d:m=a.length) (b:W.grownBy W' v.ownBlock):DO w p n v' a W':=⟨h.oi.push c d b,h.oi.kb b (Nat.lt_succ_self p) h.at_⟩
theorem Db (g:Nat) (b:List Bk) (i n d:Nat) (x:Bk) (w:World) (hn:b.length=n) (bn:n<=200) (u:dO b) (z:rv w (some ⟨g,0,none⟩) b) (T:b[i]?=some x) :
 Calls Tryz.prog 110 #[.slice (some ⟨g,0,none⟩) n d,.int .i64 i] w fun e w'=>∃ v,e=.returned v/\OI w w.heap.size v (namedL b x) w':=by
 have l:=u x (List.mem_of_getElem? T);obtain ⟨k,bs⟩:=x;have HN:=He hn;have HO:=He u;have HY:Hid (∀ W',Below w.heap.size w W'->rv W' (some ⟨g,0,none⟩) b):=fun W' hb=>z.keep hb;have HX:=He T;have V:Hid (bs.length=56):=l.len;have hi:i<n:=by rw [<- hn];exact (List.getElem?_eq_some_iff.1 T).1
 have bt:(i:Int)<n:=Ha;have X:w.cell? ⟨g,i*57,none⟩=some (.int .i64 k):=z.kind T;by_cases m:k=1
 ·subst m;have q:=He (fun W=>rL 1 bs W (by constructor <;> omega) l.len l.b);have Y:=He (xW (k:=1) l.len l.b);clear hn u z T l;go_enter Tryz.func110,Tryz.ntmps110;by_cases K:aX 1 bs
  ·have U:bo 1 bs=cW bs:=if_pos K;have HE:Hid (namedL b ⟨1,bs⟩=ia b (cW bs)):=if_pos ⟨rfl,K⟩;rw [U,decide_eq_true K] at q;rw [U] at Y;have Z:=He K.may;clear U;generalize cW bs=nd at *;go_wp2_with (first | (with_reducible refine wpList_load_mid rfl 37 (.tmp 19) rfl g (i*57) rfl (blkL 1 bs) _ ((HY.out _ (Below.refl _ _)).at_ HX.out) Tryz.underlying37 rfl (bT (x:=⟨1,bs⟩) V.out) ?_))
   refine (q.out w).mono ?_;rintro e o ⟨rfl,a⟩;have h5:=aV.new o nd0;go_upto_region 4 with (first | (refine bC rfl rfl ?_) | (refine aN rfl (.tmp 5) (.tmp 22) rfl o.heap.size rfl nd nd0 rfl h5 ?_))
   have I:Hid (DO w o.heap.size nd (.slice none 0 0) [] ((o.alloc (.cells (bF nd0) 137)).setRow o.heap.size (bF nd))) :=
    ⟨OI.start' (a.trans ((below_setRow (aM _) (Nat.le_refl _) _).mono a.size)) (Nat.le_succ_of_le a.size) (by have:=(h5.set nd);exact ah this),h5.set nd⟩
   clear h5 a q X;generalize (o.alloc (.cells (bF nd0) 137)).setRow o.heap.size (bF nd)=W at *;generalize o.heap.size=p at *;obtain ⟨c0,c1,c2,c7,c8⟩:=I.out.at_.cells;clear c0 c1 c2 c8
   go_upto_if 28 with fail
   go_cut [7] (fun v wx=>Hid (DO w p nd v (if nd.x = -1 then [] else [nd.x]++mw b nd.x) wx))
   case first =>
    by_cases B:nd.x = -1
    ·go_wp2_with fail
     go_meet
     case rel=>rw [if_pos B];exact I
    ·have bx:=He B;have c:=He (I.out.below (aM (.cells (Is [nd.x]).toArray 3)));have L:Hid (jF (W.alloc (.cells (Is [nd.x]).toArray 3)) (some ⟨W.heap.size,0,none⟩) [nd.x]):=vN (heap_alloc_new W _);obtain ⟨wk,M⟩:∃ wk,wk=W.alloc (.cells (Is [nd.x]).toArray 3):=⟨_,rfl⟩
     rw [<- M] at c L;have ad:Hid (W.alloc (.cells #[.int .i64 nd.x] 3)=wk):=M.symm;clear M;by_cases an:nd.x<(n:Int)
     ·have h0:0<=nd.x:=by have:=Z.out.at_ (i:=4) Ha;have e:nd.ps.getD 4 0=nd.x:=rfl;omega
      obtain ⟨y,z⟩:∃ y,b[nd.x.toNat]?=some y:=⟨_,List.getElem?_eq_getElem (by rw [HN.out];omega)⟩
      have C:=HO.out y (List.mem_of_getElem? z);have N:Hid (mw b nd.x=realL (tkL y.k y.bs)):=by
       have e:ik b nd.x=y:=by unfold ik;rw [List.getD,z];rfl
       unfold Hid mw;rw [if_pos (by rw [HN.out];exact an),e]
      have a0:=He (fun W=>yf y.k y.bs W C.len C.b);have a7:=He C.len;have a8:=He z;clear C z;go_wp2_with (first
       | (with_reducible refine wpList_load_mid rfl 37 (.tmp 43) rfl g (nd.x.toNat*57) rfl (blkL y.k y.bs) _ ((HY.out _ HJ5.out.oi.bel).at_ a8.out) Tryz.underlying37 rfl (bT a7.out) ?_)
       | (at_builtin
          rw [ad.out]
          go_loud (refine dC wk rfl (.tmp 29) (.tmp 32) rfl (p+1) _ 0 [] rfl c.out.oi.own (some ⟨W.heap.size,0,none⟩) 1 1 [nd.x] rfl L.out rfl Ha c.out.oi.sz ?_)
          intro v5 w5 m r _;have HJ5:Hid (DO w p nd v5 [nd.x] w5):=c.out.push m rfl r;obtain ⟨_,_,_,a9,_⟩:=HJ5.out.at_.cells;clear m r c))
      refine (a0.out _).mono ?_;rintro e w6 ⟨v6,rfl,h6,a1⟩;have a2:=He (HJ5.out.below a1);obtain ⟨A,bb,rfl,b0,b1,a3⟩:=kC (bs:=tkL y.k y.bs) h6 rfl;have a4:=Fy y.k y.bs;have s:=He (yu A (tkL y.k y.bs) (tkL y.k y.bs).length bb w6 rfl Ha a3);clear a1 h6 HJ5 a3 a0;go_wp2_with fail
      refine s.out.mono ?_;rintro e w7 ⟨v7,rfl,O⟩;have f:=He (a2.out.below O.bel);obtain ⟨A7,t,rfl,bi,bk,j⟩:=O.nts;have R:=He j;have S:Hid ((realL (tkL y.k y.bs)).length<=16):=Nat.le_trans (ox _) a4;clear O j a2 s;go_wp2_with (first
       | (at_builtin
          go_loud (refine dC w7 rfl (.tmp 48) (.tmp 50) rfl (p+1) _ 1 [nd.x] rfl f.out.oi.own A7 _ t (realL (tkL y.k y.bs)) rfl R.out rfl (by have:=S.out;omega) f.out.oi.sz ?_)
          intro v8 w8 m r _;have H:Hid (DO w p nd v8 ([nd.x]++realL (tkL y.k y.bs)) w8):=f.out.push m (by simp;omega) r;clear m r f))
      go_meet
      case rel=>rw [if_neg B,N.out];exact H
     ·have N:Hid (mw b nd.x=[]):=by
       unfold Hid mw;rw [if_neg (by rw [HN.out];exact an)]
      go_wp2_with (first
       | (at_builtin
          rw [ad.out]
          go_loud (refine dC wk rfl (.tmp 29) (.tmp 32) rfl (p+1) _ 0 [] rfl c.out.oi.own (some ⟨W.heap.size,0,none⟩) 1 1 [nd.x] rfl L.out rfl Ha c.out.oi.sz ?_)
          intro v5 w5 m r _;have HJ5:Hid (DO w p nd v5 [nd.x] w5):=c.out.push m rfl r;obtain ⟨_,_,_,a9,_⟩:=HJ5.out.at_.cells;clear m r c))
      go_meet
      case rel=>rw [if_neg B,N.out,List.append_nil];exact HJ5
   case rest =>
    have I:=hcut;have bl:Hid ((if nd.x = -1 then [] else [nd.x]++mw b nd.x).length<=17):=by
     unfold Hid;split
     ·exact Nat.zero_le _
     ·have:=BE b nd.x;rw [List.length_append,List.length_singleton];omega
    have a5:Hid (namedL b ⟨1,bs⟩=(if nd.x = -1 then [] else [nd.x]++mw b nd.x)++realL nd.dir):=by rw [HE.out];rfl
    generalize (if nd.x = -1 then [] else [nd.x]++mw b nd.x)=L0 at *;have a6:=He I.out.at_.nts;have s:=He (yu (some ⟨p,3,none⟩) nd.dir 4 4 wc rfl Ha a6.out);go_wp2_with fail
    refine s.out.mono ?_;rintro e w7 ⟨v7,rfl,O⟩;have f:=He (I.out.below O.bel);obtain ⟨A7,t,rfl,bi,bk,j⟩:=O.nts;have R:=He j;have S:Hid ((realL nd.dir).length<=4):=ox _;clear O j s a6;go_wp2_with (first
     | (at_builtin
        go_loud (refine dC w7 rfl (.tmp 52) (.tmp 55) rfl (p+1) _ _ L0 rfl f.out.oi.own A7 _ t (realL nd.dir) rfl R.out rfl (by have:=S.out;have:=bl.out;omega) f.out.oi.sz ?_)
        intro v8 w8 m r _;have H:Hid (DO w p nd v8 (L0++realL nd.dir) w8):=f.out.push m Hb r;clear m r f))
    go_ret;exact ⟨_,rfl,by rw [a5.out];exact H.out.oi.mono (Nat.le_refl _) (by have:=H.out.oi.le;omega)⟩
  ·have U:bo 1 bs=nd0:=if_neg K;have HE:Hid (namedL b ⟨1,bs⟩=[]):=if_neg (fun h=>K h.2);rw [U,decide_eq_false K] at q;clear U Y;go_wp2_with (first | (with_reducible refine wpList_load_mid rfl 37 (.tmp 19) rfl g (i*57) rfl (blkL 1 bs) _ ((HY.out _ (Below.refl _ _)).at_ HX.out) Tryz.underlying37 rfl (bT (x:=⟨1,bs⟩) V.out) ?_))
   refine (q.out w).mono ?_;rintro e o ⟨rfl,a⟩;have h5:=aV.new o nd0;go_upto_region 4 with (first | (refine bC rfl rfl ?_) | (refine aN rfl (.tmp 5) (.tmp 22) rfl o.heap.size rfl nd0 nd0 rfl h5 ?_))
   have I:Hid (OI w w.heap.size (.slice none 0 0) [] ((o.alloc (.cells (bF nd0) 137)).setRow o.heap.size (bF nd0))) :=
    OI.start' (a.trans ((below_setRow (aM _) (Nat.le_refl _) _).mono a.size)) (Nat.le_refl _) (by have:=ah (h5.set nd0);have:=a.size;omega)
   clear h5 a q X;generalize (o.alloc (.cells (bF nd0) 137)).setRow o.heap.size (bF nd0)=W at *;go_wp2_with fail
   go_ret;exact ⟨_,rfl,by rw [HE.out];exact I.out⟩
 ·have b2:¬ k=1:=m;clear hn u z T l;go_enter Tryz.func110,Tryz.ntmps110;go_wp2_with fail
  go_ret;exact ⟨_,rfl,by unfold namedL;rw [if_neg (fun h=>m h.1)];exact OI.start w⟩
theorem LT:(Tryz.prog.info? 4).map (fun i=>(i.zero,i.size,i.bytes))=some (some (.bool false),1,1):=Hc
theorem Dc (k:Nat):madeCells (Value.bool false).cells k=((List.replicate k false).map Value.bool).toArray:=by
 rw [List.map_replicate];have:(Value.bool false).cells=#[.bool false]:=rfl;rw [this];unfold madeCells;apply Array.ext_getElem?;intro i;by_cases h:i<k
 ·simp [h,Nat.mod_one]
 ·simp [h]
def j5 (w:World) (g:Nat) (S:List Bool):Prop:=w.heap[g]?=some (.cells (S.map Value.bool).toArray 4 (0,0))
theorem j5.below {w w':World} {g:Nat} {S:List Bool} (h:j5 w g S) (a:Below w.heap.size w w'):j5 w' g S:=kb a h
theorem j5.cell {w:World} {g:Nat} {S:List Bool} (h:j5 w g S) {i:Nat} {x:Bool} (a:S[i]?=some x):w.cell? ⟨g,i,none⟩=some (.bool x):=by
 rw [af h,List.getElem?_toArray,List.getElem?_map,a];rfl
theorem j5.free {w:World} {g:Nat} {S:List Bool} (h:j5 w g S) (i:Nat):w.frozen? ⟨g,i,none⟩=false:=aA h i
theorem j5.set {w:World} {g:Nat} {S:List Bool} (h:j5 w g S) (i:Nat) (x:Bool):j5 (w.setCell ⟨g,i,none⟩ (.bool x)) g (S.set i x):=by
 have:=ai (i:=i) h (.bool x);unfold j5;rw [this];simp [List.map_set]
theorem oz {b:List Bk} (d:dO b) {x:Bk} (u:x.Ok) {p:Int} (h:p∈namedL b x):0<=p:=by
 unfold namedL at h;split at h
 ·rename_i e;have f:=e.2.may;have c:=fun i g=>f.at_ (i:=i) g;unfold ia at h;have hd:∀ q∈realL (cW x.bs).dir,0<=q:=fun q j=>by
   obtain ⟨a,k⟩:=hU.1 j;rw [BD] at a;have l:=c 0 Ha;have m:=c 1 Ha;have n:=c 2 Ha;have o:=c 3 Ha;simp only [Nd.ps,List.getD_eq_getElem?_getD,List.getElem?_cons_zero,List.getElem?_cons_succ,Option.getD_some] at l m n o;omega
  rcases List.mem_append.1 h with h | h
  ·split at h
   ·cases h
   ·rename_i r;rcases List.mem_cons.1 h with h | h
    ·have s:=c 4 Ha;simp only [Nd.ps,List.getD_eq_getElem?_getD,List.getElem?_cons_zero,List.getElem?_cons_succ,Option.getD_some] at s;omega
    ·unfold mw at h;split at h
     ·obtain ⟨a,k⟩:=hU.1 h;unfold tkL at a;split at a
      ·rename_i t;have:=lC (Fw t).2 p a;omega
      ·cases a
     ·cases h
  ·exact hd p h
 ·cases h
theorem yv:∀ (l:List Int) (u:List Bool) (i:Nat),(∀ p∈l,0<=p)->i<u.length->(iV u l)[i]?=some (u.getD i false||l.contains (i:Int))
 | [],u,i,_,h=>by
   show u[i]?=_;rw [List.getElem?_eq_getElem h];simp [List.getD,List.getElem?_eq_getElem h]
 | p :: l,u,i,b,h=>by
   show (iV (u.set p.toNat true) l)[i]?=_;rw [yv l _ i (fun q c=>b q (by simp [c])) (by simp;exact h)];have d:=b p Hb
   congr 1
   rw [List.getD,List.getD,List.getElem?_set];by_cases e:p.toNat=i
   ·have a:(i:Int)=p:=Ha;rw [if_pos e,if_pos Ha];simp [a]
   ·have a:¬ (i:Int)=p:=Ha;rw [if_neg e];simp [a]
def uB (x:Bk) (m:Nat):Bool:=decide (m=0)||decide (ie x.k)||decide (x.k=6)
theorem Dd {b:List Bk} {m:Nat} {x:Bk} (a:b[m]?=some x) (f:∀ p∈namedL b x,0<=p):iV ((jP b m).set m (cJ b m m||uB x m)) (namedL b x)=jP b (m+1):=by
 have g:=(List.getElem?_eq_some_iff.1 a).1;apply List.ext_getElem?;intro i;by_cases c:i<b.length
 ·rw [yv _ _ _ f (by rw [List.length_set,bP];exact c),lE _ _ c]
  congr 1
  rw [List.getD,List.getElem?_set,bP];have d:(b.take (m+1)).any (fun x=>(namedL b x).contains (i:Int))=((b.take m).any (fun x=>(namedL b x).contains (i:Int))||(namedL b x).contains (i:Int)):=by
   rw [aw a,List.any_append];simp
  by_cases e:m=i
  ·subst e;rw [if_pos rfl,if_pos g];unfold cJ uB;rw [d,kN a,decide_eq_false (by omega:¬ m<m),decide_eq_true (by omega:m<m+1)];simp only [Bool.false_and,Bool.false_or,Bool.true_and,Option.getD_some];generalize (b.take m).any _=h;generalize (namedL b x).contains _=j;generalize (decide (m=0)||decide (ie x.k)||decide (x.k=6))=l;cases h <;> cases j <;> cases l <;> rfl
  ·rw [if_neg e,lE _ _ c];unfold cJ;rw [d,show decide (i<m+1)=decide (i<m) from by rw [Bool.eq_iff_iff];simp;omega];simp only [Option.getD_some,Bool.or_assoc]
 ·rw [List.getElem?_eq_none (by rw [fJ,List.length_set,bP];omega),List.getElem?_eq_none (by rw [bP];omega)]
theorem Fz (b:List Bk) (x:Bk):(namedL b x).length<=21:=by
 unfold namedL;split
 ·unfold ia;rw [List.length_append];have a:=ox (cW x.bs).dir;have c:(cW x.bs).dir.length=4:=rfl;split
  ·simp only [List.length_nil];omega
  ·have:=BE b (cW x.bs).x;simp only [List.length_cons];omega
 ·exact Nat.zero_le _
theorem yw (g:Nat) (b:List Bk) (n d:Nat) (w:World) (hn:b.length=n) (T:n<=200) (B:dO b) (hy:rv w (some ⟨g,0,none⟩) b) :
 Calls Tryz.prog 46 #[.slice (some ⟨g,0,none⟩) n d] w fun e w'=>∃ p,e=.returned (.slice (some ⟨p,0,none⟩) n n)/\p=w.heap.size/\j5 w' p (fy b)/\Below w.heap.size w w':=by
 have U:=He hn;have HO:=He B;have HY:Hid (∀ o,Below w.heap.size w o->rv o (some ⟨g,0,none⟩) b):=fun o hb=>hy.keep hb;have a9:Hid (∀ (i:Nat) (x:Bk) (o:World),b[i]?=some x->Below w.heap.size w o->Calls Tryz.prog 110 #[.slice (some ⟨g,0,none⟩) n d,.int .i64 i] o fun e w'=>∃ v,e=.returned v/\OI o o.heap.size v (namedL b x) w') :=
  fun i x o C hb=>Db g b i n d x o hn T B (hy.keep hb) C
 have bb:=He r8;clear hn B hy;go_enter Tryz.func46,Tryz.ntmps46;obtain ⟨i0,hi,V,W,X⟩:=info_parts LT;have Y:=run_make (P:=Tryz.prog) w 108 4 i0 _ Tryz.underlying108 hi V .i64 .i64 (n:Int) (n:Int) Ha Ha (by rw [X];omega) Ha;generalize hC:madeCells (Value.bool false).cells ((n:Int).toNat*i0.size)=C0 at Y;have HC:Hid (C0=((List.replicate n false).map Value.bool).toArray):=by
  rw [<- hC,W,Int.toNat_natCast,Nat.mul_one];exact Dc n
 clear hC hi V W X;go_upto_region 2 with fail
 have Z:Hid (j5 (w.alloc (Obj.cells C0 4)) w.heap.size (jP b 0)):=by rw [Ag,U.out,HC.out];exact heap_alloc_new w _
 have ad:=He (aM (w:=w) (Obj.cells C0 4));generalize w.alloc (Obj.cells C0 4)=W0 at *;clear Y HC;go_wp2_with fail
 go_loopw [4,5,6] (fun i l k wr=>∃ m:Nat,m<=n/\i=.int .i64 m/\Hid (j5 wr w.heap.size (jP b m))/\Hid (Below w.heap.size w wr)) (fun i _ _ _=>n-(intOf i).toNat)
 case atStart=>exact ⟨0,Ha,rfl,Z,ad⟩
 case round =>
  obtain ⟨m,hm,rfl,H,HB⟩:=hrel;obtain ⟨S,rfl⟩:∃ S,S=wr:=⟨wr,rfl⟩
  clear Z ad;by_cases an:m<n
  ·obtain ⟨x,C⟩:∃ x,b[m]?=some x:=⟨_,List.getElem?_eq_getElem (by rw [U.out];exact an)⟩
   have bi:(m:Int)<n:=Ha;have HX:=He C;have hk:=((HY.out _ HB.out).kind C)
   have bk:=H.out.cell (lE b m (by rw [U.out];exact an));have a0:=H.out.free m;have bl:∀ j,S.frozen? ⟨w.heap.size,j,none⟩=false:=fun j=>H.out.free j;have I:=HO.out x (List.mem_of_getElem? C);have HS:=He (Dd C (fun p y=>oz HO.out I y));have bn:Hid (∀ p∈namedL b x,0<=p):=fun p y=>oz HO.out I y;have b9:=He (Fz b x);have ca:Hid (∃ kk,kk=x.k):=⟨_,rfl⟩
   clear C I;go_upto_region 5 with fail
   go_cut [] (fun wx=>Hid (j5 wx w.heap.size ((jP b m).set m (cJ b m m||uB x m)))/\Hid (Below w.heap.size w wx))
   case first =>
    have f:Hid (∀ v,j5 (S.setCell ⟨w.heap.size,m,none⟩ (.bool v)) w.heap.size ((jP b m).set m v)/\Below w.heap.size w (S.setCell ⟨w.heap.size,m,none⟩ (.bool v))) :=
     fun v=>⟨H.out.set m v,HB.out.setCell (Nat.le_refl _) _⟩
    have HU:Hid (uB x m=(decide (m=0)||decide (ie x.k)||decide (x.k=6))):=rfl;generalize uB x m=iu at *;generalize cJ b m m=c at *;generalize x.k=k at *;clear HS H;cases c with
    | true =>
      go_wp2_with fail
      go_meet
      case rel=>exact ⟨(f.out true).1,(f.out true).2⟩
    | false =>
      by_cases h0:m=0
      ·have bs:decide ((m:Int)=0)=true:=decide_eq_true Ha;have bt:((m:Int)==0)=true:=beq_iff_eq.2 Ha;have e:iu=true:=by rw [HU.out,decide_eq_true h0];rfl
       subst e;clear h0;go_wp2_with fail
       go_meet
       case rel=>exact ⟨(f.out true).1,(f.out true).2⟩
      ·have bs:decide ((m:Int)=0)=false:=decide_eq_false Ha;have bt:((m:Int)==0)=false:=beq_eq_false_iff_ne.2 Ha;have HI:=He (bb.out k S);by_cases h1:ie k
       ·have e:iu=true:=by rw [HU.out,decide_eq_true h1];simp
        subst e;rw [decide_eq_true h1] at HI;go_wp2_with fail
        refine HI.out.mono ?_;rintro e w2 ⟨rfl,rfl⟩;go_wp2_with fail
        go_meet
        case rel=>exact ⟨(f.out true).1,(f.out true).2⟩
       ·rw [decide_eq_false h1] at HI;have e:iu=decide (k=6):=by rw [HU.out,decide_eq_false h1,decide_eq_false h0];rfl
        subst e;go_wp2_with fail
        refine HI.out.mono ?_;rintro e w2 ⟨rfl,rfl⟩;by_cases h6:k=6
        ·subst h6;go_wp2_with fail
         go_meet
         case rel=>exact ⟨(f.out true).1,(f.out true).2⟩
        ·have bx:decide (k=6)=false:=decide_eq_false h6;have cb:(k==6)=false:=beq_eq_false_iff_ne.2 h6;go_wp2_with fail
         go_meet
         case rel =>
          have:=f.out false;rw [bx];exact ⟨this.1,this.2⟩
   case rest =>
    obtain ⟨K,r⟩:=hcut;clear H HB bk a0 bl hk;have a1:=He (a9.out m x wc HX.out r.out);go_wp2_with fail
    refine a1.out.mono ?_;rintro e w3 ⟨v,rfl,h3⟩;have a2:=He (K.out.below h3.bel);have a3:=He (r.out.trans (h3.bel.mono r.out.size));obtain ⟨A,M,rfl,cc,cg,s⟩:=h3.nts;have a4:Hid (w3.ownsRow (w.heap.size+1) 3 1 (.slice A (namedL b x).length M) (namedL b x).length (Is (namedL b x))):=h3.own.mono (ah K.out);clear h3 s a1 K r;generalize hL:namedL b x=L at *;generalize a5:L.length=t at *;have N:=He a5;clear hL a5;generalize a6:(jP b m).set m (cJ b m m||uB x m)=z at *;have b0:Hid (z.length=n):=by unfold Hid;rw [<- a6,List.length_set,bP];exact U.out
    clear a6;go_wp2_with fail
    go_loopw [6] (fun k wr=>∃ j:Nat,j<=t/\k=.int .i64 j/\Hid (j5 wr w.heap.size (iV z (L.take j)))/\Hid (Below w.heap.size w wr)/\Hid (wr.ownsRow (w.heap.size+1) 3 1 (.slice A t M) t (Is L))) (fun k _=>t-(intOf k).toNat)
    case atStart=>exact ⟨0,Ha,rfl,a2,a3,a4⟩
    case round =>
     obtain ⟨j,hj,rfl,h,O,u⟩:=hrel;obtain ⟨w4,rfl⟩:∃ w4,w4=wr:=⟨wr,rfl⟩
     clear a2 a3 a4;by_cases b1:j<t
     ·obtain ⟨p,y⟩:∃ p,L[j]?=some p:=⟨_,List.getElem?_eq_getElem (by rw [N.out];exact b1)⟩
      have b2:(j:Int)<t:=Ha;obtain ⟨A',b8,b3,_,_,s⟩:=kC u.out N.out;injection b3 with hA _ _
      subst hA;obtain ⟨a,rfl,hc⟩:=s j p y;clear s;have h0:=bn.out p (List.mem_of_getElem? y);obtain ⟨q,rfl⟩:∃ q:Nat,p=q:=⟨p.toNat,Ha⟩
      have a7:Hid (iV z (L.take (j+1))=(iV z (L.take j)).set q true):=by
       unfold Hid;rw [aw y,uy,Int.toNat_natCast]
      have a8:Hid ((iV z (L.take j)).length=n):=by unfold Hid;rw [fJ];exact b0.out
      clear y h0;by_cases hq:q<n
      ·have b4:(q:Int)<n:=Ha;have a0:=h.out.free q;have ch:=h.out.cell (List.getElem?_eq_getElem (by rw [a8.out];exact hq));have R:Hid (j5 (w4.setCell ⟨w.heap.size,q,none⟩ (.bool true)) w.heap.size (iV z (L.take (j+1)))):=by
        unfold Hid;rw [a7.out];exact h.out.set q true
       have b5:=He (O.out.setCell (p:=⟨w.heap.size,q,none⟩) (Nat.le_refl _) (.bool true));have b6:Hid ((w4.setCell ⟨w.heap.size,q,none⟩ (.bool true)).ownsRow (w.heap.size+1) 3 1 (.slice (some a) t M) t (Is L)):=JN u.out _ (fun e=>by have:=(u.out.lt _ e).1;simp only at this;omega);go_wp2_with fail
       go_roundw
       case rel=>exact ⟨j+1,Ha,by go_num,R,b5,b6⟩
       case measure=>simp [intOf];omega
      ·have b4:¬ (q:Int)<n:=Ha;have R:Hid (j5 w4 w.heap.size (iV z (L.take (j+1)))):=by
        unfold Hid;rw [a7.out,List.set_eq_of_length_le (by rw [a8.out];omega)];exact h.out
       go_wp2_with fail
       go_roundw
       case rel=>exact ⟨j+1,Ha,by go_num,R,O,u⟩
       case measure=>simp [intOf];omega
     ·obtain rfl:j=t:=Ha;have b2:¬ (j:Int)<j:=Ha;have HE:Hid (iV z (L.take j)=jP b (m+1)):=by
       unfold Hid;rw [List.take_of_length_le (by rw [N.out];exact Nat.le_refl _)];exact HS.out
      go_wp2_with fail
      go_roundw
      case rel=>exact ⟨m+1,Ha,by go_num,by unfold Hid;rw [<- HE.out];exact h.out,O⟩
      case measure=>simp [intOf];omega
  ·obtain rfl:m=n:=Ha;have bi:¬ (m:Int)<m:=Ha;go_wp2_with fail
   go_ret;refine ⟨_,rfl,rfl,?_,HB.out⟩;have:=H.out;rw [<- U.out] at this;unfold fy;exact this
theorem Al (g:Nat) (b:List Bk) (n d:Nat) (w:World) (m:b.length=n) (f:n<=200) (h:dO b) (t:rv w (some ⟨g,0,none⟩) b) :
 Calls Tryz.prog 54 #[.slice (some ⟨g,0,none⟩) n d] w fun e w'=>e=.returned (.int .i64 (leftL b:Nat))/\Below w.heap.size w w':=by
 have v:=He (yw g b n d w m f h t);have y:Hid ((fy b).length=n):=by unfold Hid fy;rw [bP];exact m
 clear m h t;unfold leftL;generalize fy b=u at *;go_enter Tryz.func54,Tryz.ntmps54;go_wp2_with fail
 refine v.out.mono ?_;rintro e L ⟨p,rfl,rfl,z,A⟩;have I:=He z;have HB:=He A;clear z A v;go_wp2_with fail
 go_loop [3,5] (fun c i=>∃ j:Nat,j<=n/\i=.int .i64 j/\c=.int .i64 ((u.take j).count false:Nat)) (fun _ i=>n-(intOf i).toNat)
 case atStart=>exact ⟨0,Ha,rfl,rfl⟩
 case round =>
  obtain ⟨j,hj,rfl,rfl⟩:=hrel;by_cases o:j<n
  ·obtain ⟨x,r⟩:∃ x,u[j]?=some x:=⟨_,List.getElem?_eq_getElem (by rw [y.out];exact o)⟩
   have s:(j:Int)<n:=Ha;have M:=I.out.cell r;have K:(u.take j).count false<=j:=by have:=List.count_le_length (a:=false) (l:=u.take j);rw [List.length_take] at this;omega
   have B:=He (aw r);clear r;generalize C:(u.take j).count false=q at *;have H:=He C;clear C;cases x with
   | true =>
     have k:Hid (((u.take (j+1)).count false:Nat)=q):=by unfold Hid;rw [B.out,List.count_append,H.out];rfl
     go_wp2_with fail
     go_round
     case rel=>exact ⟨j+1,Ha,by go_num,by rw [k.out]⟩
     case measure=>simp [intOf];omega
   | false =>
     have k:Hid (((u.take (j+1)).count false:Nat)=q+1):=by unfold Hid;rw [B.out,List.count_append,H.out];rfl
     go_wp2_with fail
     go_round
     case rel=>exact ⟨j+1,Ha,by go_num,by rw [k.out];go_num⟩
     case measure=>simp [intOf];omega
  ·obtain rfl:j=n:=Ha;have s:¬ (j:Int)<j:=Ha;have k:Hid (u.take j=u):=List.take_of_length_le (by rw [y.out];exact Nat.le_refl _);rw [k.out];go_wp2_with fail
   go_ret;exact ⟨rfl,HB.out⟩
theorem pY (g:Nat) (b:List Bk) (n d:Nat) (A:Option Addr) (f:List Int) (m c:Nat) (w:World) (I:b.length=n) (y:n<=200) (z:dO b) (hy:rv w (some ⟨g,0,none⟩) b) (hm:f.length=m) (an:m<=1000000) (B:jF w A f) (C:∀ t∈f,0<=t/\t<(n:Int)) :
 Calls Tryz.prog 17 #[.slice (some ⟨g,0,none⟩) n d,.slice A m c] w fun e w'=>e=.returned (.int .i64 (bD b f))/\Below w.heap.size w w':=by
 have HU:=He (yw g b n d w I y z hy);have HL:Hid ((fy b).length=n):=by unfold Hid fy;rw [bP];exact I
 have HM:=He hm;have HI:=He C;have K:Hid (∀ L,Below w.heap.size w L->jF L A f):=fun L H=>B.keep H;clear I z hy hm B C;unfold bD;generalize fy b=u at *;go_enter Tryz.func17,Tryz.ntmps17;go_wp2_with fail
 refine HU.out.mono ?_;rintro e w1 ⟨p,rfl,hp,hr,H⟩;have HR:=He hr;have HB:=He H;have M:=He hp;clear hr H HU hp;go_wp2_with fail
 go_loopw [6] (fun i wr=>∃ j:Nat,j<=m/\i=.int .i64 j/\Hid (j5 wr p (iV u (f.take j)))/\Hid (Below w.heap.size w wr)) (fun i _=>m-(intOf i).toNat)
 case atStart=>exact ⟨0,Ha,rfl,HR,HB⟩
 case round =>
  obtain ⟨j,hj,rfl,h,l⟩:=hrel;obtain ⟨N,rfl⟩:∃ N,N=wr:=⟨wr,rfl⟩
  clear HR HB;by_cases O:j<m
  ·obtain ⟨x,o⟩:∃ x,f[j]?=some x:=⟨_,List.getElem?_eq_getElem (by rw [HM.out];exact O)⟩
   have R:(j:Int)<m:=Ha;obtain ⟨a,rfl,hc⟩:=(K.out _ l.out) j x o;have r:=HI.out x (List.mem_of_getElem? o);obtain ⟨q,rfl⟩:∃ q:Nat,x=q:=⟨x.toNat,by have:=r.1;omega⟩
   have S:Hid (iV u (f.take (j+1))=(iV u (f.take j)).set q true):=by
    unfold Hid;rw [aw o,uy,Int.toNat_natCast]
   have T:Hid ((iV u (f.take j)).length=n):=by unfold Hid;rw [fJ];exact HL.out
   have U:q<n:=by have:=r.2;omega
   have a0:(q:Int)<n:=Ha;clear o r;have a1:=h.out.free q;have a2:=h.out.cell (List.getElem?_eq_getElem (by rw [T.out];exact U));have V:Hid (j5 (N.setCell ⟨p,q,none⟩ (.bool true)) p (iV u (f.take (j+1)))):=by
    unfold Hid;rw [S.out];exact h.out.set q true
   have W:=He (l.out.setCell (p:=⟨p,q,none⟩) (by rw [M.out];exact Nat.le_refl _) (.bool true));go_wp2_with fail
   go_roundw
   case rel=>exact ⟨j+1,Ha,by go_num,V,W⟩
   case measure=>simp [intOf];omega
  ·obtain rfl:j=m:=Ha;have R:¬ (j:Int)<j:=Ha;have HE:Hid (f.take j=f):=List.take_of_length_le (by rw [HM.out];exact Nat.le_refl _);rw [HE.out] at h;have s:Hid ((iV u f).length=n):=by unfold Hid;rw [fJ];exact HL.out
   obtain ⟨v,X⟩:∃ v,v=iV u f:=⟨_,rfl⟩
   rw [<- X] at h s;have HV:=He X;clear HE X;go_wp2_with fail
   go_loop [7] (fun i=>∃ k:Nat,k<=n/\i=.int .i64 k/\Hid (∀ j,j<k->v[j]?=some true)) (fun i=>n-(intOf i).toNat)
   case atStart=>exact ⟨0,Ha,rfl,fun j hj=>absurd hj Ha⟩
   case round =>
    obtain ⟨k,hk,rfl,Y⟩:=hrel;by_cases Z:k<n
    ·obtain ⟨x,o⟩:∃ x,v[k]?=some x:=⟨_,List.getElem?_eq_getElem (by rw [s.out];exact Z)⟩
     have ad:(k:Int)<n:=Ha;have hc:=h.out.cell o;have HX:=He o;clear o;cases x with
     | true =>
       go_wp2_with fail
       go_round
       case rel=>exact ⟨k+1,Ha,by go_num,fun i hi=>by
        by_cases e:i=k
        ·rw [e];exact HX.out
        ·exact Y.out i Ha⟩
       case measure=>simp [intOf];omega
     | false =>
       have HF:=He (By Y.out HX.out);go_wp2_with fail
       go_ret;exact ⟨lR (by rw [<- HV.out];exact HF.out.symm),l.out⟩
    ·obtain rfl:k=n:=Ha;have ad:¬ (k:Int)<k:=Ha;have HF:=He (uz (u:=v) (by rw [s.out];exact Y.out));go_wp2_with fail
     go_ret;exact ⟨lR (by rw [<- HV.out];exact HF.out.symm),l.out⟩
def De (x:Bk):List Value:=blkL x.k x.bs
theorem gz:∀ l:List Bk,bksL l=rowL De l
 | []=>rfl
 | x :: l=>by show blkL x.k x.bs++bksL l=blkL x.k x.bs++rowL De l;rw [gz l]
theorem jg {l:List Bk} (h:dO l):lu De 57 l:=fun x a=>bf (h x a).len
structure cE (w:World) (B g n cap:Nat) (l:List Bk):Prop where
 own:w.ownsRow B 37 57 (.slice (some ⟨g,0,none⟩) n cap) n (bksL l)
 len:l.length=n
 ok:dO l
section
variable {w w':World} {B g n cap:Nat} {l:List Bk}
theorem cE.below (h:cE w B g n cap l) (a:Below w.heap.size w w'):cE w' B g n cap l:=⟨ic h.own a,h.len,h.ok⟩
theorem cE.grown (h:cE w B g n cap l) {p:Option Nat} (a:w.grownBy w' p) (hp:p≠some g):cE w' B g n cap l:=⟨h.own.kept a (.inr (fun e=>hp e.symm)),h.len,h.ok⟩
theorem cE.lt (h:cE w B g n cap l):B<=g/\g<w.heap.size:=h.own.lt g rfl
theorem cE.bks (h:cE w B g n cap l):rv w (some ⟨g,0,none⟩) l:=fun i x a=>⟨g,rfl,fun j v hj=>by
 have h5:=h.own.cells (g:=g) rfl _ _ (qs h.ok a hj);rw [dU] at h5;exact h5⟩
theorem cE.at_ (h:cE w B g n cap l) {i:Nat} {x:Bk} (a:l[i]?=some x):w.rangeAt g (i*57) (blkL x.k x.bs):=h.bks.at_ a
theorem cE.free (h:cE w B g n cap l) (k:Nat):w.frozen? ⟨g,k,none⟩=false:=rf h.own k
theorem cE.there (h:cE w B g n cap l) {i:Nat} (a:i<n):w.there g (i*57) 57:=tP h.own (by have:(i+1)*57<=n*57:=Nat.mul_le_mul_right _ a;omega)
theorem cE.setB (h:cE w B g n cap l) {i:Nat} {x y:Bk} (a:l[i]?=some x) (b:y.Ok):cE (w.setCells g (i*57) (blkL y.k y.bs)) B g n cap (l.set i y):=by
 have d:=(List.getElem?_eq_some_iff.1 a).1;have f:=h.len;have e:(blkL y.k y.bs).length=57:=bf b.len;have c:=mF h.own (o:=i*57) (blkL y.k y.bs) (by have:(i+1)*57<=n*57:=Nat.mul_le_mul_right _ Ha;omega);have m:splice (bksL l) (i*57) (blkL y.k y.bs)=bksL (l.set i y):=by
  rw [gz,gz];have:=iP (enc:=De) (sz:=57) (jg h.ok) (k:=i) (x:=x) (y:=y) (j:=0) (cs:=blkL y.k y.bs) a Ha (by
   have p:(De x).length=(blkL y.k y.bs).length:=by rw [e];exact bf (h.ok x (List.mem_of_getElem? a)).len
   exact (kJ (De x) (blkL y.k y.bs) p).symm)
  rwa [Nat.add_zero] at this
 rw [m] at c;exact ⟨c,by rw [List.length_set];exact f,BA h.ok b i⟩
theorem FA (k:Int) (bs:List Int) (j:Nat) (v:Int):(blkL k bs).set (1+j) (.int .u8 v)=blkL k (bs.set j v):=by
 unfold blkL;rw [Nat.add_comm,List.set_cons_succ,<- DU]
theorem cE.byte (h:cE w B g n cap l) {i:Nat} {x:Bk} (a:l[i]?=some x) {j:Nat} (hj:j<56) {v:Int} (e:0<=v/\v<256):cE (w.setCell ⟨g,i*57+(1+j),none⟩ (.int .u8 v)) B g n cap (l.set i (ot x j v)):=by
 have f:=(List.getElem?_eq_some_iff.1 a).1;have m:=h.len;have c:=h.ok x (List.mem_of_getElem? a);have d:=mX h.own (k:=i*57+(1+j)) (by have:(i+1)*57<=n*57:=Nat.mul_le_mul_right _ Ha;omega) (.int .u8 v);have o:(bksL l).set (i*57+(1+j)) (.int .u8 v)=bksL (l.set i (ot x j v)):=by
  rw [gz,gz];exact nY (jg h.ok) a Ha (FA x.k x.bs j v).symm
 rw [o] at d;exact ⟨d,by rw [List.length_set];exact m,BA h.ok (Y:=ot x j v) ⟨c.k,by show (x.bs.set j v).length=56;rw [List.length_set];exact c.len,D0 c.b j e⟩ i⟩
theorem cE.mono {C:Nat} (h:cE w B g n cap l) (a:C<=B):cE w C g n cap l:=⟨h.own.mono a,h.len,h.ok⟩
end
theorem cN (g:Nat):∀ (cs:List Value) (o:Nat) (w:World),w.grownBy (w.setCells g o cs) (some g)
 | [],o,w=>World.grownBy.refl _ _
 | v :: r,o,w=>by
   have b:=cN g r (o+1) (w.setCell ⟨g,o,none⟩ v);have c:w.grownBy (w.setCell ⟨g,o,none⟩ v) (some g):=⟨rfl,rfl,rfl,Hb,fun k d a=>heap_setCell_other _ _ _ _ (fun e=>a (by rw [e]))⟩
   exact ba c b
def Mk (n:Nat) (ops:Array Oper):Bool :=
 ((List.range ops.size).all fun i=>((ops[i]?).map fun o=>o.after.all fun e=>decide (e.on<i)||!Region.binds .any e).getD false) &&
 ((List.range ops.size).all fun i=>(List.range ops.size).all fun j=>i==j||(((ops[i]?).bind (·.dst)).isNone||((ops[i]?).bind (·.dst)) != ((ops[j]?).bind (·.dst)))) &&
 ((List.range ops.size).all fun i=>(((ops[i]?).bind (·.dst)).map fun d=>decide (d<n)).getD true)
section
variable {P:Program} {ops:Array Oper} {T0 T:Array Value} {D:List Deferred} {V:Nat->Value->World->Prop} {J:(Nat->Bool)->World->Prop} {S:World->World->Prop} {Q:Exit->Act->World->Prop}
theorem Df {n:Nat} (h:Mk n ops=true):(∀ (i:Nat) (o:Oper),ops[i]?=some o->∀ e∈o.after,Region.binds .any e=true->e.on<i) /\
 (∀ (i j:Nat) (o c:Oper),ops[i]?=some o->ops[j]?=some c->i≠j->∀ d,o.dst=some d->c.dst≠some d)/\(∀ (i:Nat) (o:Oper) (d:Nat),ops[i]?=some o->o.dst=some d->d<n):=by
 unfold Mk at h;simp only [Bool.and_eq_true,decide_eq_true_eq,List.all_eq_true,List.any_eq_true,List.mem_range] at h;obtain ⟨⟨g,k⟩,l⟩:=h;have lt:∀ {i:Nat} {o:Oper},ops[i]?=some o->i<ops.size:=fun {i o} a=>(Array.getElem?_eq_some_iff.1 a).1;refine ⟨fun i o a e m p=>?_,fun i j o c a b f d hd=>?_,fun i o d a hd=>?_⟩
 ·have:=g i (lt a);rw [a] at this;simp only [Option.map_some,Option.getD_some,Array.all_eq_true',Bool.or_eq_true,decide_eq_true_eq] at this;rcases this e m with h | h
  ·exact h
  ·rw [p] at h;cases h
 ·have:=k i (lt a) j (lt b);rw [a,b] at this;simp only [Option.bind_some,Bool.or_eq_true,beq_iff_eq,bne_iff_ne] at this;rcases this with h | h | h
  ·exact absurd h f
  ·rw [hd] at h;cases h
  ·rw [hd] at h;exact fun e=>h e.symm
 ·have:=l i (lt a);rw [a] at this;simp only [Option.bind_some,hd,Option.map_some,Option.getD_some,decide_eq_true_eq] at this;exact this
def Am (ops:Array Oper) (L:Nat->Bool):Prop:=∀ j a,ops[j]?=some a->L j=true->∀ e∈a.after,Region.binds .any e=true->L e.on=true
def uC (a:Nat->Oper->Prop):Nat->List Oper->Prop
 | _,[]=>True
 | i,o :: rest=>a i o/\uC a (i+1) rest
theorem uC.at_ {a:Nat->Oper->Prop}:∀ {l:List Oper} {i:Nat},uC a i l->∀ j o,l[j]?=some o->a (i+j) o
 | [],_,_,j,o,h=>by simp at h
 | x :: rest,i,h,0,o,b=>by simp at b;subst b;exact h.1
 | x :: rest,i,h,j+1,o,b=>by
   have:=uC.at_ h.2 j o (by simpa using b)
   rwa [show i+1+j=i+(j+1) by omega] at this
end
theorem gA {w W W':World} {r:Option Nat} (h:w.grownBy W r) (a:Below W.heap.size W W'):w.grownBy W' r :=
 ⟨a.os.trans h.os,a.tape.trans h.tape,a.output.trans h.output,Nat.le_trans h.size a.size,fun k b c=>by rw [a.block k (Nat.lt_of_lt_of_le b h.size)];exact h.block k b c⟩
theorem te {w W W':World} {r:Option Nat} {p:Nat} (h:w.grownBy W r) (a:W.grownBy W' (some p)) (hp:w.heap.size<=p):w.grownBy W' r :=
 ⟨a.os.trans h.os,a.tape.trans h.tape,a.output.trans h.output,Nat.le_trans h.size a.size,fun k b c=>by rw [a.block k (Nat.lt_of_lt_of_le b h.size) (fun e=>by have:=Option.some.inj e;omega)];exact h.block k b c⟩
theorem br {W W':World} {r:Option Nat} (a:W.grownBy W' r) {k:Nat} {o:Obj} (h:W.heap[k]?=some o) (b:r≠some k):W'.heap[k]?=some o:=by
 rw [a.block k (ah h) (fun e=>b e.symm)];exact h
theorem bw (W:World) (g k:Nat) (v:Value):W.grownBy (W.setCell ⟨g,k,none⟩ v) (some g):=⟨rfl,rfl,rfl,Hb,fun j hj a=>heap_setCell_other _ _ _ _ (fun e=>a (by rw [e]))⟩
section
variable {w W W':World} {B g n cap p:Nat} {b:List Bk} {nd:Nd}
end
section
variable {was:List Bk} {d:Int->Int} {i:Nat} {s s':List Bk × List Int}
end
section
variable {P:Program} {ops:Array Oper} {T0 T:Array Value} {D:List Deferred} {V:Nat->Value->World->Prop} {sl:Nat} {J:(Nat->Bool)->Value->World->Prop} {S:World->World->Prop} {Q:Exit->Act->World->Prop}
def fK (P:Program) (ops:Array Oper) (T0:Array Value) (D:List Deferred) (V:Nat->Value->World->Prop) (a:Nat) (J:(Nat->Bool)->Value->World->Prop) (S:World->World->Prop) (Q:Exit->Act->World->Prop) (i:Nat) (o:Oper):Prop :=
 ∀ T w (L:Nat->Bool),gO ops T0 T->L i=false->Am ops L->J L (T.getD a undef) w->(∀ e∈o.after,Region.binds .any e=true->L e.on=true)->(∀ e∈o.after,Region.binds .any e=true->∀ c,ops[e.on]?=some c->V e.on (cG c T) w) ->
  if Region.wanted o (yielded ops T) then o.wp P ⟨T,D⟩ w (fun d b=>∃ v,d=(⟨T,D⟩:Act).put o.dst v/\V i (match o.dst with | some _=>v | none=>undef) b/\J (fun j=>if i=j then true else L j) (if o.dst=some a then v else T.getD a undef) b/\S w b) Q else V i undef w/\J (fun j=>if i=j then true else L j) (if o.dst=some a then undef else T.getD a undef) w
def JB (ops:Array Oper) (T0:Array Value) (D:List Deferred) (V:Nat->Value->World->Prop) (b:Nat) (J:(Nat->Bool)->Value->World->Prop) (Q:Exit->Act->World->Prop):Prop :=
 ∀ T w (L:Nat->Bool),gO ops T0 T->(∀ j,j<ops.size->L j=true)->J L (T.getD b undef) w->(∀ j a,ops[j]?=some a->V j (cG a T) w)->Q .normal ⟨T,D⟩ w
structure JC (ops:Array Oper) (T0:Array Value) (D:List Deferred) (V:Nat->Value->World->Prop) (sl:Nat) (J:(Nat->Bool)->Value->World->Prop) (listed:Array Bool) (a:Act) (w:World):Prop where
 size:listed.size=ops.size
 down:Am ops (fun i=>listed.getD i false)
 defers:a.defers=D
 frame:gO ops T0 a.tmps
 vals:∀ i o,ops[i]?=some o->listed.getD i false=true->V i (cG o a.tmps) w
 world:J (fun i=>listed.getD i false) (a.tmps.getD sl undef) w
theorem An {n:Nat} {Si:Nat->World->World->Prop} (hB:Mk n ops=true) (hn:T0.size=n) (I:∀ i j v w w',i≠j->tu ops j i->V j v w->Si i w w'->V j v w')
 (A:∀ i o,ops[i]?=some o->fK P ops T0 D V sl J (Si i) Q i o) (K:JB ops T0 D V sl J Q) :
 ∀ (g:Nat) (b:Array Bool) (a:Act) (w:World),JC ops T0 D V sl J b a w->(List.range ops.size).countP (fun i=>!b.getD i false)<=g->wpAny P .any ops Q g b a w:=by
 obtain ⟨X,L,M⟩:=Df hB;have N:∀ {b:Array Bool} {a:Act} {w:World},JC ops T0 D V sl J b a w->(∀ i,i<ops.size->b.getD i false=true)->Q .normal a w:=fun {b a w} c k=>by
  obtain ⟨T,Y⟩:=a;have O:=c.defers;dsimp only at O;subst O;exact K T w _ c.frame k c.world (fun j Z r=>c.vals j Z r (k j (Array.getElem?_eq_some_iff.1 r).1))
 intro g
 induction g with
 | zero =>
   intro b a w c hc;have k:∀ i,i<ops.size->b.getD i false=true:=fun i B=>by
    have h0:(List.range ops.size).countP (fun i=>!b.getD i false)=0:=Ha;rw [List.countP_eq_zero] at h0;have:=h0 i (List.mem_range.2 B);simpa using this
   exact mQ c.size k (N c k)
 | succ g ih =>
   intro b a w c hc;refine ⟨fun hr=>?_,fun i B=>?_⟩
   ·refine N c fun i B=>?_;cases R:b.getD i false with
    | true=>rfl
    | false =>
      exfalso;have S:∃ i,(i<ops.size/\b.getD i false=false)/\∀ j,j<i->¬ (j<ops.size/\b.getD j false=false):=by
       have B:i<ops.size/\b.getD i false=false:=⟨B,R⟩
       clear R
       induction i using Nat.strongRecOn with
       | _ i ih =>
         by_cases C:∃ j,j<i/\(j<ops.size/\b.getD j false=false)
         ·obtain ⟨j,t,z⟩:=C;exact ih j t z.1 z
         ·exact ⟨i,B,fun j hj h=>C ⟨j,hj,h⟩⟩
      obtain ⟨i,⟨t,z⟩,U⟩:=S;have C:i∈Region.ready .any ops b:=iq.2 ⟨t,by rw [kB (by rw [c.size];exact t)];exact z,_,Array.getElem?_eq_getElem t,fun e u y=>by
       have h4:=X i _ (Array.getElem?_eq_getElem t) e u y;cases h5:b.getD e.on false with
       | true=>rfl
       | false=>exact absurd ⟨Ha,h5⟩ (U e.on h4)⟩
      rw [hr] at C;cases C
   ·obtain ⟨T,Y⟩:=a;have O:=c.defers;dsimp only at O;subst O;obtain ⟨t,z,o,r,U⟩:=iq.1 B;rw [kB (by rw [c.size];exact t)] at z;have m:i<b.size:=by rw [c.size];exact t
    unfold wpOp;rw [r];dsimp only;have s:=A i o r T w (fun j=>b.getD j false) c.frame z c.down c.world (fun e u y=>U e u y) (fun e u y Z p=>c.vals _ _ p (U e u y));have next:∀ v w',V i (match o.dst with | some _=>v | none=>undef) w'->J (fun j=>if i=j then true else b.getD j false) (if o.dst=some sl then v else T.getD sl undef) w'->(∀ j v,i≠j->tu ops j i->V j v w->V j v w')->wpAny P .any ops Q g (b.setIfInBounds i true) ((⟨T,Y⟩:Act).put o.dst v) w':=by
     intro v w' hV hJ hS;refine ih _ _ _ ⟨by simpa using c.size,fun j W f hj e u y=>?_,mP,oH (i:=i) r c.frame,fun j W f hj=>?_,?_⟩ ?_
     ·simp only at hj ⊢;rw [bB m] at hj ⊢;by_cases H:i=e.on
      ·rw [if_pos H]
      ·rw [if_neg H];by_cases q:i=j
       ·subst q;rw [r] at f;cases f;exact U e u y
       ·rw [if_neg q] at hj;exact c.down j W f hj e u y
     ·rw [bB m] at hj;by_cases q:i=j
      ·subst q;rw [r] at f;cases f;rw [iW (fun d hd=>by rw [c.frame.1,hn];exact M i o d r hd)];exact hV
      ·rw [if_neg q] at hj;rw [ip (fun d hd=>L i j o W r f q d hd)];exact hS j _ q (fun Z p e u y ad=>by
        rw [f] at p;injection p with p;subst p
        have:=c.down j W f hj e u y;simp only at this;rw [ad,z] at this;cases this) (c.vals j W f hj)
     ·have e9:(fun j=>(b.setIfInBounds i true).getD j false)=(fun j=>if i=j then true else b.getD j false):=funext fun j=>bB m;rw [e9];have an:(((⟨T,Y⟩:Act).put o.dst v).tmps).getD sl undef=if o.dst=some sl then v else T.getD sl undef:=by
       cases hd:o.dst with
       | none=>rw [if_neg Hb];rfl
       | some d =>
         have a0:d<T.size:=by rw [c.frame.1,hn];exact M i o d r hd
         unfold Act.put;by_cases e:d=sl
         ·subst e;rw [if_pos rfl];simp [Array.getD_eq_getD_getElem?,a0]
         ·rw [if_neg (fun h=>e (Option.some.inj h))];simp [Array.getD_eq_getD_getElem?,Array.getElem?_setIfInBounds,e]
      rw [an];exact hJ
     ·have:(List.range ops.size).countP (fun j=>!(b.setIfInBounds i true).getD j false)<(List.range ops.size).countP (fun j=>!b.getD j false):=by
       have a1:∀ (l:List Nat),i∈l->l.Nodup->l.countP (fun j=>!(b.setIfInBounds i true).getD j false)<l.countP (fun j=>!b.getD j false):=by
        have le:∀ (l:List Nat),l.countP (fun j=>!(b.setIfInBounds i true).getD j false)<=l.countP (fun j=>!b.getD j false):=fun l =>
         List.countP_mono_left fun j _ hj=>by
          rw [bB m] at hj;by_cases q:i=j
          ·rw [if_pos q] at hj;cases hj
          ·rw [if_neg q] at hj;exact hj
        intro l
        induction l with
        | nil=>intro h;cases h
        | cons x l a2 =>
          intro C a3;rw [List.countP_cons,List.countP_cons];by_cases e:x=i
          ·subst e;have H:(!(b.setIfInBounds x true).getD x false)=false:=by rw [bB m,if_pos rfl];rfl
           have q:(!b.getD x false)=true:=by rw [z];rfl
           rw [H,q];have:=le l;simp only [Bool.false_eq_true,if_false,if_true];omega
          ·have a4:i∈l:=by
            rcases List.mem_cons.1 C with h | h
            ·exact absurd h.symm e
            ·exact h
           have:=a2 a4 (List.nodup_cons.1 a3).2;have H:(b.setIfInBounds i true).getD x false=b.getD x false:=by rw [bB m,if_neg (fun h=>e h.symm)]
           rw [H];omega
       exact a1 _ (List.mem_range.2 t) List.nodup_range
      omega
    by_cases hw:Region.wanted o (yielded ops T)=true
    ·rw [if_pos hw] at s ⊢;refine Or.inl (Oper.wp_mono (fun a' w'=>?_) s);rintro ⟨v,rfl,hV,hJ,hS⟩;exact next v w' hV hJ (fun j v a5 hd h=>I i j v w w' a5 hd h hS)
    ·rw [if_neg hw] at s ⊢;refine next undef w ?_ s.2 (fun j v _ _ h=>h)
     cases o.dst <;> exact s.1
theorem fK.of {i:Nat} {o:Oper} (b:o.guard=none) (h:∀ T w (L:Nat->Bool),gO ops T0 T->L i=false->Am ops L->J L (T.getD sl undef) w->(∀ e∈o.after,Region.binds .any e=true->L e.on=true)->(∀ e∈o.after,Region.binds .any e=true->∀ a,ops[e.on]?=some a->V e.on (cG a T) w) ->
 o.wp P ⟨T,D⟩ w (fun c w'=>∃ v,c=(⟨T,D⟩:Act).put o.dst v/\V i (match o.dst with | some _=>v | none=>undef) w'/\J (fun j=>if i=j then true else L j) (if o.dst=some sl then v else T.getD sl undef) w'/\S w w') Q):fK P ops T0 D V sl J S Q i o:=by
 intro T w L d f g k h5 l;rw [if_pos (by unfold Region.wanted;rw [b])];exact h T w L d f g k h5 l
theorem tf {id:Nat} {w:World} {l:List Oper} (V:Nat->Value->World->Prop) (e:Nat) (J:(Nat->Bool)->Value->World->Prop) (Si:Nat->World->World->Prop) (k:P.follows .mixedOrders=true) (m:Mk T0.size l.toArray=true) (c:∀ i j v w w',i≠j->jU l.toArray j i=true->V j v w->Si i w w'->V j v w') (hJ:J (fun _=>false) (T0.getD e undef) w.drew)
 (h:uC (fun i o=>fK P l.toArray T0 D V e J (Si i) Q i o) 0 l) (d:JB l.toArray T0 D V e J Q):(Code.region id l.toArray true).wp P Q ⟨T0,D⟩ w:=by
 have n:=h.at_;have p:(fun i=>(Array.replicate l.toArray.size false).getD i false)=(fun _=>false):=funext fun i=>mz _ _;refine wp_region_any k (An m rfl (fun i j v w w' f hd=>c i j v w w' f hd.b) (fun i o g=>?_) d _ _ _ _ ⟨Hb,fun i o g a=>?_,rfl,⟨rfl,fun _ _=>rfl⟩,fun i o g a=>?_,by rw [p];exact hJ⟩ ?_)
 ·have:=n i o (by simpa using g)
  rwa [Nat.zero_add] at this
 ·simp only at a;rw [mz] at a;cases a
 ·rw [mz] at a;cases a
 ·exact Nat.le_trans List.countP_le_length Hb
end
def Ml (w:World) (u:Value) (m:Nat) (a:List Value):Prop:=(u=.slice none 0 0/\m=0)\/∃ b c,u=.slice (some b) m c/\∀ j x,a[j]?=some x->w.cell? (b.add j)=some x
def oA (e sz N:Nat) (w w':World):Prop:=∀ v n a,n<=N->w.ownsRow 0 e sz v n a->w'.ownsRow 0 e sz v n a
theorem oA.refl (e sz N:Nat) (w:World):oA e sz N w w:=fun _ _ _ _ h=>h
theorem oA.of {w w':World} {e sz n:Nat} {v:Value} {xs:List Value} (m:0<sz) (h:w.ownsRow 0 e sz v n xs) (O:w'.ownsRow 0 e sz v n xs) (R:w.grownBy w' v.ownBlock):oA e sz n w w':=by
 intro A o S T p;by_cases l:A.ownBlock=Option.none\/A.ownBlock≠v.ownBlock
 ·exact p.kept R l
 ·rcases p.2 with ⟨rfl,_⟩ | ⟨g,d,q,rfl,r,s,t,u,x,U⟩
  ·exact absurd (.inl rfl) l
  ·rcases h.2 with ⟨rfl,_⟩ | ⟨B,f,C,rfl,_,a,H,I,i,y⟩
   ·exact absurd (.inr (by simp [Value.ownBlock])) l
   ·have V:g=B:=by
     rcases Nat.decEq g B with e | e
     ·exact absurd (.inr (by simp [Value.ownBlock];exact e)) l
     ·exact e
    subst V;rw [s] at a;injection a with a;injection a with a
    subst a;rcases O.2 with ⟨b,_⟩ | ⟨Z,K,c,b,_,j,L,M,k,z⟩
    ·cases b
    ·injection b with b e2 W
     injection b with b;injection b with b
     subst b;subst W;have X:d=f:=Nat.eq_of_mul_eq_mul_right m (by rw [<- x,<- i]);subst X;refine ⟨p.1,.inr ⟨g,d,c,rfl,r,j,t,u,k,?_⟩⟩;have Y:o*sz<=n*sz:=Nat.mul_le_mul_right _ T;have N:(c.toList.take (n*sz)).take (o*sz)=(q.toList.take (n*sz)).take (o*sz):=by rw [z,y]
     rw [List.take_take,List.take_take,Nat.min_eq_left Y] at N;rw [N];exact U
section
variable {P:Program} {o:Oper} {a:Act} {w:World} {K:Act->World->Prop} {Q:Exit->Act->World->Prop}
theorem Ao (s x:Operand) (t:TypeId) (R:o.op=.call { callee:=.builtin .append,args:=#[s,x],argTypes:=#[t,t] })
 (e:TypeId) (i:TypeInfo) (z:Value) (size d:Nat) (L:P.underlying t=some (.slice e)) (M:P.info? e=some i) (S:i.zero=some z)
 (j:i.size=size) (r:i.bytes=d) (A:z.cells.size=size) (l:0<size)
 (v:Value) (n:Nat) (B:List Value) (T:a.eval s=v) (f:w.ownsRow 0 e size v n B)
 (u:Value) (m:Nat) (b:List Value) (U:a.eval x=u) (C:Ml w u m b) (N:b.length=m*size) (V:∀ y∈b,y.oneCell'=true)
 (H:n+m<=maxLen) (g:(n+m)*d<=140737488355328)
 (h:∀ p q,q.ownsRow 0 e size p (n+m) (B++b)->w.grownBy q v.ownBlock->(p.ownBlock=v.ownBlock\/p.ownBlock=some w.heap.size)->oA e size n w q->K (a.put o.dst p) q):o.wp P a w K Q:=by
 rcases C with ⟨rfl,rfl⟩ | ⟨W,c,rfl,k⟩
 ·have O:b=[]:=List.eq_nil_of_length_eq_zero (by simpa using N);subst O;have I:=run_append_owned_none (P:=P) (w:=w) 0 t o.type e i size L M v n B f;unfold Oper.wp execOp;simp only [R,resolve,invoke,builtin,Sem.run_bind,Sem.run_pure,Result.andThen_ok,List.map_toArray,List.map_cons,List.map_nil,T,U,I];exact h v w (by simpa using f) (World.grownBy.refl w _) (.inl rfl) (oA.refl _ _ _ _)
 ·obtain ⟨p,q,I,Y,X,Z,h5⟩:=run_append_own_at (P:=P) w 0 t o.type e i z size d L M S j r A l v n B f W m c b N k V H g (Nat.zero_le _);unfold Oper.wp execOp;simp only [R,resolve,invoke,builtin,Sem.run_bind,Sem.run_pure,Result.andThen_ok,List.map_toArray,List.map_cons,List.map_nil,T,U,I];exact h p q Y X h5 (oA.of l f (jj t o.type e i z size d L M S j r A l v n B f W m c b N k V H g I) X)
end
theorem mj {W:World} {B e sz n q:Nat} {v:Value} {xs:List Value} (h:W.ownsRow B e sz v n xs) {C:Array Value} {t:TypeId} {c:Nat × Nat} (a:W.heap[q]?=some (.cells C t c)) (d:t≠e):v.ownBlock≠some q:=by
 intro b;rcases h.2 with ⟨rfl,_⟩ | ⟨g,f,i,rfl,k,j,_⟩
 ·cases b
 ·have:g=q:=by injection b
  subst this;rw [j] at a;injection a with a;injection a with _ a _
  exact d a.symm
end Go.Proofs.YtegjelaejbacnaaGreat
