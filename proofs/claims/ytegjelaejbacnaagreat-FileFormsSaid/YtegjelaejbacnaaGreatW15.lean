/- For FileForms: contracts and facts, part 15. -/
import Derived.Test.YtegjelaejbacnaaGreatW13
import Derived.Test.YtegjelaejbacnaaGreatW14
set_option maxRecDepth 100000
set_option maxHeartbeats 25600000
set_option linter.unusedVariables false
open Go.ChangeShapes Go.WideShapes Go.ChangeAt Go.RowKit
namespace Go.Proofs.YtegjelaejbacnaaGreat
theorem jA (g:Nat) {m:Nat} (h:m<=55) (w:World):(Instr.sliceAt 35 (.pointer (some ⟨g,1,none⟩)) (some (.int .i64 m)) none none).run Tryz.prog w=.ok (.slice (some ⟨g,1+m,none⟩) (56-m) (56-m)) w:=by
 have z3:=Tryz.sizeOf5;have e1:Tryz.prog.arrayLen 35=56:=Hc;have e2:Tryz.prog.elem 35=5:=Hc;have e3:Tryz.prog.underlying 35=some (.array (Tryz.prog.arrayLen 35) (Tryz.prog.elem 35)):=Hc;rw [run_sliceAt_array_l w 35 _ e3 .i64 (m:Int) Ha (by rw [e1];omega),e1,e2];have hm:¬ 56=m:=Ha;simp [z3,slicedAt,dp,hm]
theorem uo {ops:Array Oper} {rest:List Oper} {o:Oper} {ac:Act} {w:World} {Q:Exit->Act->World->Prop} (hgd:o.guard=none) (s x:Operand)
 (ho:o.op=.call { callee:=.builtin .copy,args:=#[s,x],argTypes:=#[22,9] })
 (g:Nat) (k:Int) (n:Nat) (ys t:List Int) (hn:ys.length=n) (hs:ac.eval s=.slice (some ⟨g,1+n,none⟩) (56-n) (56-n)) (hx:ac.eval x=.string (strOfNums t)) (hg:w.heap[g]?=some (.cells (ab k (dh ys)) 37 (0,0))) (hl:n+t.length<=56) (ht:ax t)
 (h:wpList Tryz.prog ops Q rest (ac.put o.dst (goInt t.length)) (w.setRow g (ab k (dh (ys++t))))):wpList Tryz.prog ops Q (o :: rest) ac w :=
 wpList_plain hgd fun _ hK=>by
  subst hn;have hr:=Bq w o.type g k ys t hg hl ht;unfold Oper.wp execOp;simp only [ho,resolve,invoke,builtin,Sem.run_bind,Sem.run_pure,Result.andThen_ok,List.map_toArray,List.map_cons,List.map_nil,hs,hx,hr];exact hK _ _ h
theorem wo (k:Int) (n:Nd) (w:World) (hn:mw n):Calls Tryz.prog 142 #[.int .i64 k,.agg (bD n)] w fun e w'=>e=.returned (.tuple #[.agg (ab (dV k n) (cT k n)),.bool (decide (aS k n))])/\Below w.heap.size w w':=by
 have HM:=He (fun w=>Do k n w hn);have HTP:=He (nj n);have hT:=hn.t;have HTA:=He hT;have HP:Hid (PW w w.heap.size n k [] ((((w.alloc (Obj.cells (bD n) 137)).alloc (Obj.cells (ab 0 ay) 37)).alloc (Obj.cells (ab 0 ay) 37)).setRow (w.heap.size+1+1) (ab k ay))):=by
  have s1:(w.alloc (Obj.cells (bD n) 137)).heap.size=w.heap.size+1:=ak _ _;have s2:((w.alloc (Obj.cells (bD n) 137)).alloc (Obj.cells (ab 0 ay) 37)).heap.size=w.heap.size+1+1:=by rw [ak,s1]
  have B1:=aK (w:=w) (Obj.cells (bD n) 137);have B2:=B1.alloc B1.size (Obj.cells (ab 0 ay) 37);have B3:=B2.alloc B2.size (Obj.cells (ab 0 ay) 37);have H1:=heap_alloc_new (w.alloc (Obj.cells (bD n) 137)) (Obj.cells (ab 0 ay) 37);rw [s1] at H1;have H2:=heap_alloc_new ((w.alloc (Obj.cells (bD n) 137)).alloc (Obj.cells (ab 0 ay) 37)) (Obj.cells (ab 0 ay) 37);rw [s2] at H2;refine ⟨below_setRow B3 Ha _,(((aR.new w n).alloc _).alloc _).other _ Ha,?_,am H2⟩;rw [setRow_other _ _ _ _ Ha];exact kb (aK _) H1
 have HQ:Hid ((((w.alloc (Obj.cells (bD n) 137)).alloc (Obj.cells (ab 0 ay) 37)).alloc (Obj.cells (ab 0 ay) 37)).heap[w.heap.size+1+1]?=some (.cells (ab 0 ay) 37 (0,0))):=by
  unfold Hid;have h:=heap_alloc_new ((w.alloc (Obj.cells (bD n) 137)).alloc (Obj.cells (ab 0 ay) 37)) (Obj.cells (ab 0 ay) 37)
  rwa [show ((w.alloc (Obj.cells (bD n) 137)).alloc (Obj.cells (ab 0 ay) 37)).heap.size=w.heap.size+1+1 by rw [ak,ak]] at h
 go_enter Tryz.func142,Tryz.ntmps142;go_wp2_with (first
  | (refine aq rfl rfl ?_))
 refine jt [0] fun F here on=>?_;have HH:=He here;clear here on;go_upto_region 2 with (first
  | (refine aq rfl rfl ?_;try simp only [ak])
  | (refine iX rfl (.tmp 10) k rfl rfl ?_)
  | (refine ap rfl (.tmp 6) (.tmp 11) rfl (w.heap.size+1+1) rfl k 0 ay ay rfl al al HQ.out ?_))
 clear HQ;generalize (((w.alloc (Obj.cells (bD n) 137)).alloc (Obj.cells (ab 0 ay) 37)).alloc (Obj.cells (ab 0 ay) 37)).setRow (w.heap.size+1+1) (ab k ay)=W at *;by_cases hm:aS k n
 ·have HA:=He (fun x hx ys m s W a b c d=>yq (w.heap.size+1+1) k ys m x s W a b c d hx);have HPK:Hid (dV k n=k):=by unfold Hid dV;rw [if_pos hm]
  have HPB:Hid (cT k n=dh (bG n)):=by unfold Hid cT;rw [if_pos hm]
  have HD:=He (decide_eq_true hm);rw [HD.out] at HM;have htl:=hm.tl;have hsz:=hm.sz;have hgl:=hm.1;have HPL:=He (fun i hi=>hm.at_ (i:=i) hi);have hg32:n.g<4294967296:=by have:=hn.g.2;omega
  have wl:IntKind.u32.wrap n.l=n.l:=IntWalk.u32_in _ Ha;have ws:IntKind.u32.wrap n.s=n.s:=IntWalk.u32_in _ Ha;clear hm;go_wp2_with (refine aU rfl (.tmp 3) rfl w.heap.size rfl n HP.out.at_ ?_)
  refine (HM.out _).mono ?_;rintro e w1 ⟨rfl,hb1⟩;have HP1:=He (HP.out.below hb1);clear hb1 HP;go_upto_region 4 with fail
  obtain ⟨c0,c1,c2,c7,c8⟩:=HP1.out.at_.cells;go_wp2_with fail
  refine (HA.out n.g ⟨Ha,hg32⟩ [] 0 4 _ rfl HP1.out.bd Ha Ha).mono ?_;rintro e w2 ⟨rfl,hbd,hg⟩;have HP2:=He (HP1.out.step hbd hg);clear hbd hg HP1 c0 c1 c2 c7 c8;obtain ⟨c0,c1,c2,c7,c8⟩:=HP2.out.at_.cells;go_wp2_with fail
  refine (HA.out n.l Ha ([]++be n.g.toNat 4) (0+4) 2 _ (by simp [av]) HP2.out.bd Ha Ha).mono ?_;rintro e w3 ⟨rfl,hbd,hg⟩;have HP3:=He (HP2.out.step hbd hg);clear hbd hg HP2 c0 c1 c2 c7 c8;obtain ⟨c0,c1,c2,c7,c8⟩:=HP3.out.at_.cells;go_wp2_with fail
  refine (HA.out n.s Ha ([]++be n.g.toNat 4++be n.l.toNat 2) (0+4+2) 4 _ (by simp [av]) HP3.out.bd Ha Ha).mono ?_;rintro e w4 ⟨rfl,hbd,hg⟩;have HP4':=He (HP3.out.step hbd hg);have HP4:Hid (PW w w.heap.size n k (dH n) w4):=HP4';clear hbd hg HP3 HP4' c0 c1 c2 c7 c8;go_wp2_with (refine aU rfl (.tmp 3) rfl w.heap.size rfl n HP4.out.at_ ?_)
  refine (HTP.out _).mono ?_;rintro e w5 ⟨rfl,hb5⟩;have HP5:=He (HP4.out.below hb5);clear hb5 HP4;go_wp2_with fail
  go_loopw [7,34] (fun c i wr=>∃ j:Nat,j<=5/\i=.int .i64 j/\c=.slice (some ⟨w.heap.size+1+1,1,none⟩) (10+2*j) 56/\Hid (PW w w.heap.size n k (dH n++mK (n.ps.take j)) wr)) (fun _ i _=>(5-intOf i).toNat)
  case atStart=>exact ⟨0,Ha,rfl,rfl,by unfold Hid;rw [List.take_zero];show PW _ _ _ _ (dH n++[]) _;rw [List.append_nil];exact HP5.out⟩
  case round =>
   obtain ⟨j,hj,rfl,rfl,HPj⟩:=hrel;by_cases hlt:j<5
   ·have hix:=fun W=>qu n hlt W;have hx:n.ps[j]?=some (n.ps.getD j 0):=by
     rw [List.getD,List.getElem?_eq_getElem (show j<n.ps.length from hlt)];rfl
    have HT2:Hid (dH n++mK (n.ps.take (j+1))=dH n++mK (n.ps.take j)++be (n.ps.getD j 0+1).toNat 2):=by
     unfold Hid;rw [au hx,qw,List.append_assoc]
    have hb:=HPL.out j hlt;have HTN:=He (Bn (n.ps.getD j 0));have HLN:Hid ((dH n++mK (n.ps.take j)).length=10+2*j):=by
     unfold Hid;rw [List.length_append,ki,kh,List.length_take];show 10+2*min j 5=_;omega
    clear hx;generalize n.ps.getD j 0=x at *;go_wp2_with fail
    refine (HTN.out _ hb).mono ?_;rintro e w6 ⟨rfl,rfl⟩;go_wp2_with fail
    refine (HA.out (x+1) Ha (dH n++mK (n.ps.take j)) (10+2*j) 2 _ HLN.out HPj.out.bd Ha Ha).mono ?_;rintro e w7 ⟨rfl,hbd,hg⟩;have HPn:=He (HPj.out.step hbd hg);clear hbd hg HPj hix;go_wp2_with fail
    go_roundw
    case rel=>exact ⟨j+1,Ha,by go_num,by rw [show 10+2*(j+1)=10+2*j+2 by omega],by rw [HT2.out];exact HPn⟩
    case measure=>simp [intOf];omega
   ·obtain rfl:j=5:=Ha;have HPK5:Hid (PW w w.heap.size n k (dH n++mK n.ps) wr):=HPj;rw [show 10+2*5=20 from rfl];have wt:IntKind.u8.wrap ((strOfNums n.t).size:Int)=n.t.length:=by rw [strOfNums_size];exact IntWalk.u8_in _ Ha
    have HL5:Hid ((dH n++mK n.ps).length=20):=by unfold Hid;rw [List.length_append,ki,kh];rfl
    clear HPj;go_upto_region 12 with fail
    obtain ⟨c0,c1,c2,c7,c8⟩:=HPK5.out.at_.cells;have hlw:=strOfNums_size n.t;go_upto_region 13 with (first
     | (at_builtin
        refine dy rfl (.tmp 42) (.tmp 47) rfl (w.heap.size+1+1) k 20 (dH n++mK n.ps) (n.t.length:Int) ⟨wr.heap.size,0,none⟩ HL5.out rfl rfl (HPK5.out.alloc _).bd Ha ((af (heap_alloc_new _ _) 0).trans rfl) ?_;intro w9 h1 h2;have HP9':=He ((HPK5.out.alloc _).step h1 h2);have HP9:Hid (PW w w.heap.size n k (jz n) w9):=HP9';clear h1 h2 HP9' HPK5))
    clear c0 c1 c2 c7 c8;have c8:=HP9.out.at_.cells.2.2.2.2;have hsl:=fun W=>jA (w.heap.size+1+1) (m:=21) Ha W
    go_still_tail 6,Hc
    change wpList _ _ _ _ _ w9.drew;have HPD:Hid (PW w w.heap.size n k (jz n) w9.drew):=⟨HP9.out.bel.drew,HP9.out.at_,HP9.out.res,HP9.out.bd⟩
    clear HP9 c8 hsl;generalize w9.drew=w10 at *;refine uo rfl (.tmp 52) (.tmp 54) rfl (w.heap.size+1+1) k 21 (jz n) n.t (lW n) rfl rfl HPD.out.bd Ha HTA.out ?_;have HPE:Hid (PW w w.heap.size n k (bG n) (w10.setRow (w.heap.size+1+1) (ab k (dh (jz n++n.t))))):=HPD.out.copied;generalize w10.setRow (w.heap.size+1+1) (ab k (dh (jz n++n.t)))=w11 at *;have HLB:=He (fH (ys:=bG n) (by rw [g8];omega));clear HPD wt hlw hsz hgl hg32 wl ws HL5 hT;go_wp2_with (first
     | (refine aQ rfl (.tmp 6) rfl (w.heap.size+1+1) rfl k (dh (bG n)) HLB.out HPE.out.bd ?_)
     | (refine ap rfl (.tmp 4) (.tmp 56) rfl (w.heap.size+1) rfl k 0 (dh (bG n)) ay rfl HLB.out al HPE.out.res ?_))
    simp only [aY];refine bodyPost_ret (aT rfl _ _ (w.heap.size+1) k (dh (bG n)) rfl HLB.out (am HPE.out.res)) rfl ?_;exact ⟨by rw [HPK.out,HPB.out,HD.out];rfl,below_setRow HPE.out.bel Ha _⟩
 ·have HPK:Hid (dV k n=0):=by unfold Hid dV;rw [if_neg hm]
  have HPB:Hid (cT k n=ay):=by unfold Hid cT;rw [if_neg hm]
  have HD:=He (decide_eq_false hm);rw [HD.out] at HM;clear hm;go_wp2_with (refine aU rfl (.tmp 3) rfl w.heap.size rfl n HP.out.at_ ?_)
  refine (HM.out _).mono ?_;rintro e w1 ⟨rfl,hb1⟩;have HP1:=He (HP.out.below hb1);clear hb1 HP;go_wp2_with fail
  go_step3;refine HH.out _ _ _ _ _ rfl ?_;go_wp2_with (first
   | (refine bJ rfl rfl ?_)
   | (refine ap rfl (.tmp 4) (.tmp 57) rfl (w.heap.size+1) rfl 0 0 ay ay rfl al al HP1.out.res ?_))
  simp only [aY];refine bodyPost_ret (aT rfl _ _ (w.heap.size+1) 0 ay rfl al (am HP1.out.res)) rfl ?_;exact ⟨by rw [HPK.out,HPB.out,HD.out];rfl,below_setRow HP1.out.bel Ha _⟩
theorem wu (A:Option Addr) (xs:List Int) (n d:Nat) (w:World) (hn:xs.length=n) (hl:n<=4) (hB:ax xs) (hy:dD w A xs) :
 Calls Tryz.prog 200 #[.slice A n d] w fun e w'=>e=.returned (.int .u32 (aB xs))/\w=w':=by
 have HY:=He hy;have HN:=He hn;have HB:=He hB;clear hn hB hy;go_enter Tryz.func200,Tryz.ntmps200;go_wp2
 go_loop [3,8] (fun z i=>∃ k:Nat,k<=n/\i=.int .i64 k/\z=.int .u32 (aB (xs.take k):Nat)) (fun _ i=>n-(intOf i).toNat)
 case atStart=>exact ⟨0,Nat.zero_le _,rfl,rfl⟩
 case round =>
  obtain ⟨k,hk,rfl,rfl⟩:=hrel;by_cases hlt:k<n
  ·obtain ⟨x,hx⟩:∃ x,xs[k]?=some x:=⟨_,List.getElem?_eq_getElem (by rw [HN.out];exact hlt)⟩
   obtain ⟨ad,rfl,hc0⟩:=HY.out k x hx;have hxb:=HB.out x (List.mem_of_getElem? hx);obtain ⟨y,rfl⟩:∃ y:Nat,x=(y:Int):=⟨x.toNat,Ha⟩
   have hyb:y<256:=Ha;have HS:Hid (aB (xs.take (k+1))=aB (xs.take k)*256+y):=by
    unfold Hid;rw [au hx,jJ,Int.toNat_natCast]
   have hv:=iG k (xs.take k) (by rw [List.length_take,HN.out];omega) (fun z hz=>HB.out z (List.mem_of_mem_take hz));have hv2:256 ^ k<=256 ^ 3:=Nat.pow_le_pow_right Ha Ha;have hv3:aB (xs.take k)<16777216:=Ha;clear hx hxb hv hv2;generalize aB (xs.take k)=a at *;have wy:IntKind.u32.wrap (y:Int)=y:=IntWalk.u32_in _ Ha;have wa:IntKind.u32.wrap ((a:Int)*256)=(a:Int)*256:=IntWalk.u32_in _ Ha;have wb:=zh a y hv3 hyb;go_wp2
   go_round
   case rel=>exact ⟨k+1,Ha,by go_num,by rw [HS.out];go_num⟩
   case measure=>simp [intOf];omega
  ·have e:xs.take k=xs:=List.take_of_length_le (by rw [HN.out];omega);rw [e];go_wp2;go_ret;exact ⟨rfl,rfl⟩
theorem lz {W:World} {g:Nat} {k:Int} {bs:List Int} (h:W.heap[g]?=some (.cells (ab k bs) 37 (0,0))) (o m:Nat):dD W (some ⟨g,1+o,none⟩) ((bs.drop o).take m):=by
 intro i x hi;refine ⟨_,rfl,?_⟩;rw [List.getElem?_take] at hi;split at hi
 ·rw [List.getElem?_drop] at hi;rw [dp,af h,<- Array.getElem?_toList,bp];unfold blkL;rw [show 1+o+i=(o+i)+1 by omega];exact ku hi
 ·cases hi
def bh (bs:List Int) (o m:Nat):List Int:=(bs.drop o).take m
theorem fI {bs:List Int} (h:bs.length=56) {o m:Nat} (hm:o+m<=56):(bh bs o m).length=m:=by unfold bh;rw [List.length_take,List.length_drop];omega
theorem gI {bs:List Int} (h:ax bs) (o m:Nat):ax (bh bs o m):=fun x hx=>h x (List.mem_of_mem_drop (List.mem_of_mem_take hx))
def Im (bs:List Int) (i:Nat):Int:=(aB (bh bs (10+2*i) 2):Int)-1
def ol (bs:List Int) (j:Nat):Nd:=⟨aB (bh bs 0 4),aB (bh bs 4 2),aB (bh bs 6 4),if 0<j then Im bs 0 else 0,if 1<j then Im bs 1 else 0,if 2<j then Im bs 2 else 0,if 3<j then Im bs 3 else 0,if 4<j then Im bs 4 else 0,[]⟩
theorem kK {bs:List Int} (h:bs.length=56) (hB:ax bs) {o:Nat} (ho:o+2<=56):aB (bh bs o 2)<65536:=iG 2 _ (fI h ho) (gI hB _ _)
theorem i5 {bs:List Int} (h:bs.length=56) (hB:ax bs) {o:Nat} (ho:o+4<=56):aB (bh bs o 4)<4294967296:=iG 4 _ (fI h ho) (gI hB _ _)
theorem zR (g l s:Int):Tryz.prog.built 137 [(0,.int .u32 g),(1,.int .i64 l),(2,.int .i64 s)]=some (bD ⟨g,l,s,0,0,0,0,0,[]⟩):=Hc
def Ja (g i:Nat):Value:=.slice (some ⟨g,11+2*i,none⟩) (10-2*i) (46-2*i)
theorem s9 {o:Oper} {ac:Act} {w:World} {K:Act->World->Prop} {Q:Exit->Act->World->Prop} (ho:o.op=.alloc 137)
 (h:K (ac.put o.dst (.pointer (some ⟨w.heap.size,0,none⟩))) (w.alloc (.cells (bD nd0) 137))):o.wp Tryz.prog ac w K Q:=by
 obtain ⟨i0,hi,hz0,hz1⟩:∃ i,Tryz.prog.info? 137=some i/\i.zero=some (.agg (bD nd0))/\i.size=9:=by
  have h:=Gx;cases hq:Tryz.prog.info? 137 with
  | none=>rw [hq] at h;cases h
  | some i=>rw [hq] at h;simp only [Option.map_some,Option.some.injEq,Prod.mk.injEq] at h;exact ⟨i,rfl,h.1,h.2⟩
 exact bV 137 ho i0 _ hi hz0 h
def Dq (W0:World) (b:Bool) (W:World):Prop:=W=(if b=true then W0.alloc (.cells (bD nd0) 137) else W0)
theorem Dq.blk {W0 W:World} {b:Bool} {g:Nat} {k:Int} {bs:List Int} (h:Dq W0 b W) (hg:W0.heap[g]?=some (.cells (ab k bs) 37 (0,0))):W.heap[g]?=some (.cells (ab k bs) 37 (0,0)):=by
 unfold Dq at h;subst h;cases b
 ·exact hg
 ·exact kb (aK _) hg
def K8 (g:Nat) (bs:List Int) (W0:World) (i:Nat) (v:Value) (W:World):Prop :=
 match i with
 | 0 | 3 | 7=>v=.slice (some ⟨g,1,none⟩) 20 56
 | 1=>v=.slice (some ⟨g,1,none⟩) 4 56
 | 2=>v=.int .u32 (aB (bh bs 0 4))
 | 4=>v=.slice (some ⟨g,5,none⟩) 2 52
 | 5=>v=.int .u32 (aB (bh bs 4 2))
 | 6=>v=.int .i64 (aB (bh bs 4 2))
 | 8=>v=.slice (some ⟨g,7,none⟩) 4 50
 | 9=>v=.int .u32 (aB (bh bs 6 4))
 | 10=>v=.int .i64 (aB (bh bs 6 4))
 | 11=>v=.agg (bD (ol bs 0))
 | 12=>v=.pointer (some ⟨W0.heap.size,0,none⟩)
 | _=>True
theorem ww (g:Nat) (k:Int) (bs:List Int) (h56:bs.length=56) (hB:ax bs) (o m n d:Nat) (w:World) (hg:w.heap[g]?=some (.cells (ab k bs) 37 (0,0))) (hn:m=n) (ho:o+m<=56) (hm:m<=4) :
 Calls Tryz.prog 200 #[.slice (some ⟨g,1+o,none⟩) n d] w fun e w'=>e=.returned (.int .u32 (aB (bh bs o m)))/\w=w' :=
 wu _ (bh bs o m) n d w (by rw [fI h56 ho];exact hn) Ha (gI hB _ _) (lz hg o m)
theorem uq (g:Nat) (k:Int) (bs:List Int) (w:World) (h56:bs.length=56) (hB:ax bs) (hg:w.heap[g]?=some (.cells (ab k bs) 37 (0,0))) :
 Calls Tryz.prog 171 #[.slice (some ⟨g,1,none⟩) 20 56] w fun e w'=>e=.returned (.agg (bD (ol bs 5)))/\Below w.heap.size w w':=by
 have HT:=He (fun o m n d W hg hn h2 h3=>ww g k bs h56 hB o m n d W hg hn h2 h3);have HN2:=He (fun o ho=>kK (o:=o) h56 hB ho);have HN4:=He (fun o ho=>i5 (o:=o) h56 hB ho);have wc1:IntKind.i64.wrap (aB (bh bs 4 2):Int)=aB (bh bs 4 2):=IntWalk.i64_in _ (by have:=HN2.out 4 Ha;omega);have wc2:IntKind.i64.wrap (aB (bh bs 6 4):Int)=aB (bh bs 6 4):=IntWalk.i64_in _ (by have:=HN4.out 6 Ha;omega);have HR:=He (aR.new w nd0);have HB:=He (aK (w:=w) (Obj.cells (bD nd0) 137));have HG:=He (kb (aK (Obj.cells (bD nd0) 137)) hg);have hlt:g<w.heap.size:=ai hg;have HG0:=He hg;clear hg;go_enter Tryz.func171,Tryz.ntmps171;go_upto_region 1 with (refine bA rfl rfl ?_;go_simp)
 generalize w.alloc (Obj.cells (bD nd0) 137)=W at *
 go_cut [3] (fun s wx=>∃ q,s=.pointer (some ⟨q,0,none⟩)/\w.heap.size<q/\aR wx q (ol bs 0)/\aR wx w.heap.size nd0/\Below w.heap.size w wx)
 case first =>
  have hblk:W.drew.heap[g]?=some (.cells (ab k bs) 37 (0,0)):=HG.out;have hJ0:Dq W.drew false W.drew:=rfl;have HRD:Hid (aR W.drew w.heap.size nd0):=HR;have HBD:Hid (Below w.heap.size w W.drew):=HB.out.drew;have hlw:w.heap.size<W.drew.heap.size:=ai HRD.out;refine aw (K8 g bs W.drew) (fun L W2=>Dq W.drew (L 12) W2) (fun _ _ _=>True) Hc Hc (fun i j v' w' w'' _ _ hv _=>hv) hJ0 ?_;clear hJ0 HR HB HG;generalize W.drew=W0 at *;simp only [bW];refine ⟨?_,?_,?_,?_,?_,?_,?_,?_,?_,?_,?_,?_,?_,?_⟩
  ·refine aa.of rfl fun T W L hag hL hJ hLs hd=>?_;have e0:=Hf hag 0;exact Hi
  ·refine aa.of rfl fun T W L hag hL hJ hLs hd=>?_;have d5:T.getD 5 undef=_:=Hg hd 0 rfl;exact Hi
  ·refine aa.of rfl fun T W L hag hL hJ hLs hd=>?_;have d6:T.getD 6 undef=_:=Hg hd 1 rfl;clear hag hd;go_simp;refine (HT.out 0 4 4 56 W (hJ.blk hblk) rfl Ha Ha).mono ?_;rintro en w' ⟨rfl,rfl⟩;exact ⟨_,rfl,rfl,hJ⟩
  ·refine aa.of rfl fun T W L hag hL hJ hLs hd=>?_;have e0:=Hf hag 0;exact Hi
  ·refine aa.of rfl fun T W L hag hL hJ hLs hd=>?_;have d8:T.getD 8 undef=_:=Hg hd 3 rfl;exact Hi
  ·refine aa.of rfl fun T W L hag hL hJ hLs hd=>?_;have d9:T.getD 9 undef=_:=Hg hd 4 rfl;clear hag hd;go_simp;refine (HT.out 4 2 2 52 W (hJ.blk hblk) rfl Ha Ha).mono ?_;rintro en w' ⟨rfl,rfl⟩;exact ⟨_,rfl,rfl,hJ⟩
  ·refine aa.of rfl fun T W L hag hL hJ hLs hd=>?_;have d10:T.getD 10 undef=_:=Hg hd 5 rfl;have fct0:=wc1;exact Hi
  ·refine aa.of rfl fun T W L hag hL hJ hLs hd=>?_;have e0:=Hf hag 0;exact Hi
  ·refine aa.of rfl fun T W L hag hL hJ hLs hd=>?_;have d12:T.getD 12 undef=_:=Hg hd 7 rfl;exact Hi
  ·refine aa.of rfl fun T W L hag hL hJ hLs hd=>?_;have d13:T.getD 13 undef=_:=Hg hd 8 rfl;clear hag hd;go_simp;refine (HT.out 6 4 4 50 W (hJ.blk hblk) rfl Ha Ha).mono ?_;rintro en w' ⟨rfl,rfl⟩;exact ⟨_,rfl,rfl,hJ⟩
  ·refine aa.of rfl fun T W L hag hL hJ hLs hd=>?_;have d14:T.getD 14 undef=_:=Hg hd 9 rfl;have fct0:=wc2;exact Hi
  ·refine aa.of rfl fun T W L hag hL hJ hLs hd=>?_;have d7:T.getD 7 undef=_:=Hg hd 2 rfl;have d11:T.getD 11 undef=_:=Hg hd 6 rfl;have d15:T.getD 15 undef=_:=Hg hd 10 rfl;clear hag hd;have hbu:=fun W=>run_build (P:=Tryz.prog) W 137 #[(0,.int .u32 (aB (bh bs 0 4))),(1,.int .i64 (aB (bh bs 4 2))),(2,.int .i64 (aB (bh bs 6 4)))] _ (zR _ _ _);simp only [Array.getD_eq_getD_getElem?] at d7 d11 d15;go_simp;exact ⟨_,rfl,rfl⟩
  ·refine aa.of rfl fun T W L hag hL hJ hLs hd=>?_;have hJ0:W=W0:=by have h:=hJ;unfold Dq at h;rw [show L 12=false from hL] at h;exact h
   subst hJ0;clear hag hd;refine s9 rfl ?_;exact ⟨_,rfl,rfl,rfl,trivial⟩
  ·refine bg.of rfl fun T W L hag hLs hL hJ hd=>?_;have d3:T.getD 3 undef=_:=hd 12 _ Hb rfl;have d16:T.getD 16 undef=_:=hd 11 _ Hb rfl;obtain ⟨f,hf,hT⟩:=aH hag;have h3:=(hf 3).trans d3;have h16:=(hf 16).trans d16;have HJ:=He hJ;clear hag hd d3 d16 hJ hf;rw [hT];clear hT;simp only [List.pop_toArray,List.dropLast_cons_cons,List.dropLast_singleton,List.filterMap_cons,List.filterMap_nil,List.foldl_cons,List.foldl_nil,List.setIfInBounds_toArray,List.set_cons_succ,List.set_cons_zero,h3,h16];have hJ0:W=W0.alloc (.cells (bD nd0) 137):=by have h:=HJ.out;unfold Dq at h;rw [show L 12=true from hLs 12 Hd] at h;exact h
   subst hJ0;have HN0:=aR.new W0 nd0;refine sY (.tmp 3) (.tmp 16) rfl W0.heap.size rfl (ol bs 0) nd0 rfl HN0 ?_;rename_i hJc hKc;go_wp2_with fail
   refine hJc _ _ ?_
   repeat apply Exists.intro
   exact ⟨⟨_,rfl,hlw,HN0.set _,(HRD.out.alloc _).other _ Ha,below_setRow (HBD.out.alloc HBD.out.size _) (Nat.le_of_lt hlw) _⟩,rfl⟩
 case rest =>
  obtain ⟨q,rfl,hq,hn,hr,hbel⟩:=hcut;have HN0:=He hn;have HR0:=He hr;have HB0:=He hbel;clear hn hr hbel HB HG HR;go_wp2_with fail
  go_loopw [0,19] (fun c i wr=>∃ j:Nat,j<=4/\i=.int .i64 j/\c=Ja g j/\Hid (aR wr q (ol bs j))/\Hid (aR wr w.heap.size nd0)/\Hid (Below w.heap.size w wr)) (fun _ i _=>(4-intOf i).toNat)
  case atStart=>exact ⟨0,Ha,rfl,rfl,HN0,HR0,HB0⟩
  case round =>
   obtain ⟨j,hj,rfl,rfl,HN,HR,HB⟩:=hrel;clear HN0 HR0 HB0;have hblk:wr.heap[g]?=some (.cells (ab k bs) 37 (0,0)):=(HB.out.block g hlt).trans HG0.out;have HBLK:=He hblk;clear hblk;have h4:j=0\/j=1\/j=2\/j=3\/j=4:=Ha;rcases h4 with rfl | rfl | rfl | rfl | rfl
   ·rw [show Ja g 0=.slice (some ⟨g,11,none⟩) 10 46 from rfl];have hv:=HN2.out 10 Ha;have HTP:=He (fun W=>ir (aB (bh bs 10 2):Int) W Ha);have c0:wr.cell? ⟨q,3,none⟩=some (.int .i64 0):=(HN.out.cell 3).trans rfl;have f0:wr.frozen? ⟨q,3,none⟩=false:=az HN.out 3;have HN1:Hid (aR (wr.setCell ⟨q,3,none⟩ (.int .i64 ((aB (bh bs 10 2):Int)-1))) q (ol bs 1)):=ah HN.out _;have HR1:Hid (aR (wr.setCell ⟨q,3,none⟩ (.int .i64 ((aB (bh bs 10 2):Int)-1))) w.heap.size nd0):=by
     unfold Hid aR;rw [heap_setCell_other wr _ _ _ (show w.heap.size≠q by omega)];exact HR.out
    have HB1:Hid (Below w.heap.size w (wr.setCell ⟨q,3,none⟩ (.int .i64 ((aB (bh bs 10 2):Int)-1)))):=HB.out.setCell (Nat.le_of_lt hq) _;go_wp2_with fail
    refine (HT.out 10 2 2 46 wr HBLK.out rfl Ha Ha).mono ?_;rintro e w2 ⟨rfl,rfl⟩;go_wp2_with fail
    refine (HTP.out _).mono ?_;rintro e w3 ⟨rfl,rfl⟩;go_wp2_with fail
    go_roundw
    case rel=>exact ⟨1,Ha,rfl,rfl,HN1,HR1,HB1⟩
    case measure=>simp [intOf]
   ·rw [show Ja g 1=.slice (some ⟨g,13,none⟩) 8 44 from rfl];have hv:=HN2.out 12 Ha;have HTP:=He (fun W=>ir (aB (bh bs 12 2):Int) W Ha);have c0:wr.cell? ⟨q,4,none⟩=some (.int .i64 0):=(HN.out.cell 4).trans rfl;have f0:wr.frozen? ⟨q,4,none⟩=false:=az HN.out 4;have HN1:Hid (aR (wr.setCell ⟨q,4,none⟩ (.int .i64 ((aB (bh bs 12 2):Int)-1))) q (ol bs 2)):=ah HN.out _;have HR1:Hid (aR (wr.setCell ⟨q,4,none⟩ (.int .i64 ((aB (bh bs 12 2):Int)-1))) w.heap.size nd0):=by
     unfold Hid aR;rw [heap_setCell_other wr _ _ _ (show w.heap.size≠q by omega)];exact HR.out
    have HB1:Hid (Below w.heap.size w (wr.setCell ⟨q,4,none⟩ (.int .i64 ((aB (bh bs 12 2):Int)-1)))):=HB.out.setCell (Nat.le_of_lt hq) _;go_wp2_with fail
    refine (HT.out 12 2 2 44 wr HBLK.out rfl Ha Ha).mono ?_;rintro e w2 ⟨rfl,rfl⟩;go_wp2_with fail
    refine (HTP.out _).mono ?_;rintro e w3 ⟨rfl,rfl⟩;go_wp2_with fail
    go_roundw
    case rel=>exact ⟨2,Ha,rfl,rfl,HN1,HR1,HB1⟩
    case measure=>simp [intOf]
   ·rw [show Ja g 2=.slice (some ⟨g,15,none⟩) 6 42 from rfl];have hv:=HN2.out 14 Ha;have HTP:=He (fun W=>ir (aB (bh bs 14 2):Int) W Ha);have c0:wr.cell? ⟨q,5,none⟩=some (.int .i64 0):=(HN.out.cell 5).trans rfl;have f0:wr.frozen? ⟨q,5,none⟩=false:=az HN.out 5;have HN1:Hid (aR (wr.setCell ⟨q,5,none⟩ (.int .i64 ((aB (bh bs 14 2):Int)-1))) q (ol bs 3)):=ah HN.out _;have HR1:Hid (aR (wr.setCell ⟨q,5,none⟩ (.int .i64 ((aB (bh bs 14 2):Int)-1))) w.heap.size nd0):=by
     unfold Hid aR;rw [heap_setCell_other wr _ _ _ (show w.heap.size≠q by omega)];exact HR.out
    have HB1:Hid (Below w.heap.size w (wr.setCell ⟨q,5,none⟩ (.int .i64 ((aB (bh bs 14 2):Int)-1)))):=HB.out.setCell (Nat.le_of_lt hq) _;go_wp2_with fail
    refine (HT.out 14 2 2 42 wr HBLK.out rfl Ha Ha).mono ?_;rintro e w2 ⟨rfl,rfl⟩;go_wp2_with fail
    refine (HTP.out _).mono ?_;rintro e w3 ⟨rfl,rfl⟩;go_wp2_with fail
    go_roundw
    case rel=>exact ⟨3,Ha,rfl,rfl,HN1,HR1,HB1⟩
    case measure=>simp [intOf]
   ·rw [show Ja g 3=.slice (some ⟨g,17,none⟩) 4 40 from rfl];have hv:=HN2.out 16 Ha;have HTP:=He (fun W=>ir (aB (bh bs 16 2):Int) W Ha);have c0:wr.cell? ⟨q,6,none⟩=some (.int .i64 0):=(HN.out.cell 6).trans rfl;have f0:wr.frozen? ⟨q,6,none⟩=false:=az HN.out 6;have HN1:Hid (aR (wr.setCell ⟨q,6,none⟩ (.int .i64 ((aB (bh bs 16 2):Int)-1))) q (ol bs 4)):=ah HN.out _;have HR1:Hid (aR (wr.setCell ⟨q,6,none⟩ (.int .i64 ((aB (bh bs 16 2):Int)-1))) w.heap.size nd0):=by
     unfold Hid aR;rw [heap_setCell_other wr _ _ _ (show w.heap.size≠q by omega)];exact HR.out
    have HB1:Hid (Below w.heap.size w (wr.setCell ⟨q,6,none⟩ (.int .i64 ((aB (bh bs 16 2):Int)-1)))):=HB.out.setCell (Nat.le_of_lt hq) _;go_wp2_with fail
    refine (HT.out 16 2 2 40 wr HBLK.out rfl Ha Ha).mono ?_;rintro e w2 ⟨rfl,rfl⟩;go_wp2_with fail
    refine (HTP.out _).mono ?_;rintro e w3 ⟨rfl,rfl⟩;go_wp2_with fail
    go_roundw
    case rel=>exact ⟨4,Ha,rfl,rfl,HN1,HR1,HB1⟩
    case measure=>simp [intOf]
   ·rw [show Ja g 4=.slice (some ⟨g,19,none⟩) 2 38 from rfl];have hv:=HN2.out 18 Ha;have HTP:=He (fun W=>ir (aB (bh bs 18 2):Int) W Ha);have c0:wr.cell? ⟨q,7,none⟩=some (.int .i64 0):=(HN.out.cell 7).trans rfl;have f0:wr.frozen? ⟨q,7,none⟩=false:=az HN.out 7;have HN1:Hid (aR (wr.setCell ⟨q,7,none⟩ (.int .i64 ((aB (bh bs 18 2):Int)-1))) q (ol bs 5)):=ah HN.out _;have HR1:Hid (aR (wr.setCell ⟨q,7,none⟩ (.int .i64 ((aB (bh bs 18 2):Int)-1))) w.heap.size nd0):=by
     unfold Hid aR;rw [heap_setCell_other wr _ _ _ (show w.heap.size≠q by omega)];exact HR.out
    have HB1:Hid (Below w.heap.size w (wr.setCell ⟨q,7,none⟩ (.int .i64 ((aB (bh bs 18 2):Int)-1)))):=HB.out.setCell (Nat.le_of_lt hq) _;go_wp2_with fail
    refine (HT.out 18 2 2 38 wr HBLK.out rfl Ha Ha).mono ?_;rintro e w2 ⟨rfl,rfl⟩;go_wp2_with fail
    refine (HTP.out _).mono ?_;rintro e w3 ⟨rfl,rfl⟩;go_upto_region 10 with fail
    generalize wr.setCell ⟨q,7,none⟩ (.int .i64 ((aB (bh bs 18 2):Int)-1))=w4 at *;go_wp2_with (first
     | (refine aU rfl (.tmp 3) rfl q rfl _ HN1.out ?_)
     | (refine aL rfl (.tmp 2) (.tmp 36) rfl w.heap.size rfl (ol bs 5) nd0 rfl HR1.out ?_))
    refine bodyPost_ret (yk rfl _ _ w.heap.size (ol bs 5) rfl (HR1.out.set _)) rfl ?_;exact ⟨rfl,below_setRow HB1.out (Nat.le_refl _) _⟩
def cM (bs:List Int):Nd:={ ol bs 5 with t:=bh bs 21 (bs.getD 20 0).toNat }
def aX (k:Int) (bs:List Int):Prop:=bs.getD 20 0<=32/\aS k (cM bs)/\dh (bG (cM bs))=bs
instance (k:Int) (bs:List Int):Decidable (aX k bs):=by unfold aX;infer_instance
def bj (k:Int) (bs:List Int):Nd:=if aX k bs then cM bs else nd0
theorem lA {bs:List Int} (hB:ax bs) (i:Nat):0<=bs.getD i 0/\bs.getD i 0<256:=by
 rw [List.getD];cases h:bs[i]? with
 | none=>exact ⟨Hd,Hd⟩
 | some x=>exact hB x (List.mem_of_getElem? h)
theorem ur {bs:List Int} (h56:bs.length=56) (hB:ax bs):mw (cM bs):=by
 have h4:=fun o ho=>i5 (o:=o) h56 hB ho;have h2:=fun o ho=>kK (o:=o) h56 hB ho;have pl:∀ i,i<5->i64 (Im bs i):=fun i hi=>by
  have:=h2 (10+2*i) Ha;unfold Im i64;omega
 refine ⟨?_,?_,?_,pl 0 Ha,pl 1 Ha,pl 2 Ha,pl 3 Ha,pl 4 Ha,gI hB _ _,?_⟩
 ·have:=h4 0 Ha;show u32 (aB (bh bs 0 4):Int);unfold u32;omega
 ·have:=h2 4 Ha;show i64 (aB (bh bs 4 2):Int);unfold i64;omega
 ·have:=h4 6 Ha;show i64 (aB (bh bs 6 4):Int);unfold i64;omega
 ·show (bh bs 21 _).length<=_;unfold bh;rw [List.length_take,List.length_drop];omega
theorem wB {k:Int} {bs:List Int} (h56:bs.length=56) (hB:ax bs):mw (bj k bs):=by
 unfold bj;split
 ·exact ur h56 hB
 ·exact Ii
theorem qB (g:Nat) {m:Nat} (h:m<=32) (w:World):(Instr.sliceAt 35 (.pointer (some ⟨g,1,none⟩)) (some (.int .i64 21)) (some (.int .i64 (21+(m:Int)))) none).run Tryz.prog w=.ok (.slice (some ⟨g,22,none⟩) m 35) w:=by
 have z3:=Tryz.sizeOf5;have e1:Tryz.prog.arrayLen 35=56:=Hc;have e2:Tryz.prog.elem 35=5:=Hc;have e3:Tryz.prog.underlying 35=some (.array (Tryz.prog.arrayLen 35) (Tryz.prog.elem 35)):=Hc;rw [run_sliceAt_array_lh w 35 _ e3 .i64 .i64 21 (21+(m:Int)) Ha Ha (by rw [e1];omega),e1,e2];have hm:(21+(m:Int)).toNat=21+m:=Ha;simp [z3,slicedAt,dp,hm]
theorem oT {ops:Array Oper} {rest:List Oper} {o:Oper} {a:Act} {w:World} {Q:Exit->Act->World->Prop} (hgd:o.guard=none) (x y:Operand) (t:TypeId) (ho:o.op=.binOp .neq 37 x y t) (k j:Int) (bs cs:List Int) (hx:a.eval x=.agg (ab k bs)) (hy:a.eval y=.agg (ab j cs)) (hb:bs.length=56) (hc:cs.length=56) (hB:ax bs) (hC:ax cs)
 (h:wpList Tryz.prog ops Q rest (a.put o.dst (.bool (!(decide (k=j/\bs=cs))))) w):wpList Tryz.prog ops Q (o :: rest) a w :=
 wpList_plain hgd fun _ hK=>by
  have hg:=run_eqGuard_agg (P:=Tryz.prog) w .neq 37 x y (ab k bs) (ab j cs) tT;have hr:=Ik k j bs cs hb hc hB hC w;unfold Oper.wp execOp;simp only [ho,hx,hy,Sem.run_bind,hg,hr,Result.andThen_ok];exact hK _ _ h
structure TW (w:World) (p:Nat) (k:Int) (bs:List Int) (m:Nd) (j:Int) (cs:List Int) (W:World):Prop where
 bel:Below p w W
 blk:W.heap[p]?=some (.cells (ab k bs) 37 (0,0))
 res:aR W (p+1) nd0
 nd:aR W (p+1+1) m
 cb:W.heap[p+1+1+1]?=some (.cells (ab j cs) 37 (0,0))
section
variable {w W W':World} {p:Nat} {k j:Int} {bs cs:List Int} {m:Nd}
theorem TW.sz (h:TW w p k bs m j cs W):p+1+1+1<W.heap.size:=ai h.cb
theorem TW.below (h:TW w p k bs m j cs W) (hb:Below W.heap.size W W'):TW w p k bs m j cs W' :=
 ⟨h.bel.trans (hb.mono (by have:=h.sz;omega)),kb hb h.blk,h.res.below hb,h.nd.below hb,kb hb h.cb⟩
theorem TW.setNd (h:TW w p k bs m j cs W) (m2:Nd):TW w p k bs m2 j cs (W.setRow (p+1+1) (bD m2)) :=
 ⟨below_setRow h.bel Ha _,by rw [setRow_other W _ _ _ Ha];exact h.blk,h.res.other _ Ha,h.nd.set m2,by rw [setRow_other W _ _ _ Ha];exact h.cb⟩
theorem TW.setT (h:TW w p k bs m j cs W) (t:List Int):TW w p k bs { m with t:=t } j cs (W.setCell ⟨p+1+1,8,none⟩ (.string (strOfNums t))) :=
 ⟨h.bel.setCell (show p<=p+1+1 by omega) _,by rw [heap_setCell_other W _ _ _ (show p≠p+1+1 by omega)];exact h.blk,by unfold aR;rw [heap_setCell_other W _ _ _ (show p+1≠p+1+1 by omega)];exact h.res,ah h.nd _,by rw [heap_setCell_other W _ _ _ (show p+1+1+1≠p+1+1 by omega)];exact h.cb⟩
theorem TW.setCb (h:TW w p k bs m j cs W) (i:Int) (ds:List Int):TW w p k bs m i ds (W.setRow (p+1+1+1) (ab i ds)) :=
 ⟨below_setRow h.bel Ha _,by rw [setRow_other W _ _ _ Ha];exact h.blk,h.res.other _ Ha,h.nd.other _ Ha,am h.cb⟩
end
theorem td (k:Int) (bs:List Int) (w:World) (hk:i64 k) (h56:bs.length=56) (hB:ax bs):Calls Tryz.prog 130 #[.agg (ab k bs)] w fun e w'=>e=.returned (.tuple #[.agg (bD (bj k bs)),.bool (decide (aX k bs))])/\Below w.heap.size w w':=by
 have hok:=ur h56 hB;have HPUT:=He (fun w=>wo k (cM bs) w hok);have HTN:=He (fun g w hg=>uq g k bs w h56 hB hg);have H56:=He h56;have HBB:=He hB;have HT0:Hid (TW w w.heap.size k bs nd0 0 ay ((((w.alloc (Obj.cells (ab k bs) 37)).alloc (Obj.cells (bD nd0) 137)).alloc (Obj.cells (bD nd0) 137)).alloc (Obj.cells (ab 0 ay) 37))):=by
  have s1:(w.alloc (Obj.cells (ab k bs) 37)).heap.size=w.heap.size+1:=ak _ _;have s2:((w.alloc (Obj.cells (ab k bs) 37)).alloc (Obj.cells (bD nd0) 137)).heap.size=w.heap.size+1+1:=by rw [ak,s1]
  have s3:(((w.alloc (Obj.cells (ab k bs) 37)).alloc (Obj.cells (bD nd0) 137)).alloc (Obj.cells (bD nd0) 137)).heap.size=w.heap.size+1+1+1:=by rw [ak,s2]
  have B1:=aK (w:=w) (Obj.cells (ab k bs) 37);have B2:=B1.alloc B1.size (Obj.cells (bD nd0) 137);have B3:=B2.alloc B2.size (Obj.cells (bD nd0) 137);have B4:=B3.alloc B3.size (Obj.cells (ab 0 ay) 37);have H0:=heap_alloc_new w (Obj.cells (ab k bs) 37);have H1:=aR.new (w.alloc (Obj.cells (ab k bs) 37)) nd0;rw [s1] at H1;have H2:=aR.new ((w.alloc (Obj.cells (ab k bs) 37)).alloc (Obj.cells (bD nd0) 137)) nd0;rw [s2] at H2;have H3:=heap_alloc_new (((w.alloc (Obj.cells (ab k bs) 37)).alloc (Obj.cells (bD nd0) 137)).alloc (Obj.cells (bD nd0) 137)) (Obj.cells (ab 0 ay) 37);rw [s3] at H3;exact ⟨B4,kb (aK _) (kb (aK _) (kb (aK _) H0)),(H1.alloc _).alloc _,H2.alloc _,H3⟩
 have hy:=lA hB 20;obtain ⟨yn,hyn⟩:∃ yn:Nat,bs.getD 20 0=(yn:Int):=⟨(bs.getD 20 0).toNat,Ha⟩
 have hx20:bs[20]?=some (yn:Int):=by
  rw [<- hyn,List.getD,List.getElem?_eq_getElem Ha];rfl
 have HC20:Hid (∀ W:World,W.heap[w.heap.size]?=some (.cells (ab k bs) 37 (0,0))->W.cell? ⟨w.heap.size,21,none⟩=some (.int .u8 yn)):=fun W h=>by
  rw [af h,<- Array.getElem?_toList,bp];exact ku (i:=20) hx20
 have HTS:Hid (cM bs={ ol bs 5 with t:=bh bs 21 yn }):=by unfold Hid cM;rw [hyn];rfl
 have HTD:Hid (aX k bs↔((yn:Int)<=32/\aS k (cM bs)/\dh (bG (cM bs))=bs)):=by unfold Hid aX;rw [hyn]
 have hyl:yn<256:=Ha;have wy:IntKind.i64.wrap (yn:Int)=yn:=IntWalk.i64_in _ Ha;have wy2:IntKind.i64.wrap (21+(yn:Int))=21+(yn:Int):=IntWalk.i64_in _ Ha;clear hk hy hyn hx20;have HY:Hid (aX k bs->bj k bs=cM bs):=fun h=>by unfold bj;rw [if_pos h]
 have HNO:Hid (¬ aX k bs->bj k bs=nd0):=fun h=>by unfold bj;rw [if_neg h]
 go_enter Tryz.func130,Tryz.ntmps130;go_wp2_with (first
  | (refine bA rfl rfl ?_;try simp only [ak])
  | (refine aq rfl rfl ?_;try simp only [ak]))
 refine jt [0] fun F here on=>?_;have HH:=He here;clear here on;go_upto_region 4 with (first
  | (refine bA rfl rfl ?_;try simp only [ak])
  | (refine aq rfl rfl ?_;try simp only [ak]))
 generalize (((w.alloc (Obj.cells (ab k bs) 37)).alloc (Obj.cells (bD nd0) 137)).alloc (Obj.cells (bD nd0) 137)).alloc (Obj.cells (ab 0 ay) 37)=W at *;have c20:=HC20.out W HT0.out.blk;by_cases h32:32<yn
 ·have hq:=h32;have hno:¬ aX k bs:=fun h=>by have:=(HTD.out.1 h).1;omega
  have HE:=He (HNO.out hno);have HD:=He (decide_eq_false hno);clear hno;go_wp2_with fail
  go_step3;refine HH.out _ _ _ _ _ rfl ?_;go_wp2_with (first
   | (refine cJ rfl rfl ?_)
   | (refine aL rfl (.tmp 2) (.tmp 36) rfl (w.heap.size+1) rfl nd0 nd0 rfl HT0.out.res ?_))
  simp only [aY];refine bodyPost_ret (dG rfl _ _ (w.heap.size+1) nd0 rfl (HT0.out.res.set _)) rfl ?_;exact ⟨by rw [HE.out,HD.out];rfl,below_setRow HT0.out.bel Ha _⟩
 have hsl:=fun W=>qB w.heap.size (m:=yn) Ha W;have HHL:=He hsl;clear hsl;go_wp2_with fail
 refine (HTN.out _ _ HT0.out.blk).mono ?_;rintro e w1 ⟨rfl,hb1⟩;have HT1:=He (HT0.out.below hb1);clear hb1 HT0 c20;have HT2:=He (HT1.out.setNd (ol bs 5));go_upto_region 7 with (refine aL rfl (.tmp 4) (.tmp 16) rfl (w.heap.size+1+1) rfl (ol bs 5) nd0 rfl HT1.out.nd ?_)
 clear HT1;generalize w1.setRow (w.heap.size+1+1) (bD (ol bs 5))=w2 at *;have hsl:=HHL.out w2;have hcv:=dY (c:=35) (lz HT2.out.blk 21 yn) (show (bh bs 21 yn).length=yn from fI H56.out Ha);have HT3:=He (HT2.out.setT (bh bs 21 yn));rw [<- HTS.out] at HT3;have c8:=HT2.out.nd.cells.2.2.2.2;have f8:w2.frozen? ⟨w.heap.size+1+1,8,none⟩=false:=az HT2.out.nd 8;change (convert 22 9 (.slice (some ⟨w.heap.size,22,none⟩) yn 35)).run Tryz.prog w2=.ok (.string (strOfNums (bh bs 21 yn))) w2 at hcv;go_upto_region 8 with fail
 clear HT2 hsl hcv c8 f8 HHL;generalize w2.setCell ⟨w.heap.size+1+1,8,none⟩ (.string (strOfNums (bh bs 21 yn)))=w3 at *;have ck:w3.cell? ⟨w.heap.size,0,none⟩=some (.int .i64 k):=ky HT3.out.blk (bp _ _);go_wp2_with (refine aU rfl (.tmp 4) rfl (w.heap.size+1+1) rfl (cM bs) HT3.out.nd ?_)
 refine (HPUT.out _).mono ?_;rintro e w4 ⟨rfl,hb4⟩;have HT4:=He (HT3.out.below hb4);clear hb4 HT3 ck;by_cases hm:aS k (cM bs)
 ·have HPK:Hid (dV k (cM bs)=k):=by unfold Hid dV;rw [if_pos hm]
  have HPB:Hid (cT k (cM bs)=dh (bG (cM bs))):=by unfold Hid cT;rw [if_pos hm]
  have HL:Hid ((dh (bG (cM bs))).length=56):=by unfold Hid;rw [<- HPB.out];exact ly
  have HLB:Hid (ax (dh (bG (cM bs)))):=by unfold Hid;rw [<- HPB.out];exact mz hok.t
  rw [HPK.out,HPB.out,decide_eq_true hm];have HTE:Hid (aX k bs↔dh (bG (cM bs))=bs):=HTD.out.trans ⟨fun h=>h.2.2,fun h=>⟨Ha,hm,h⟩⟩;clear hm HPK HPB HTD;generalize dh (bG (cM bs))=cs at *;have HT5:=He (HT4.out.setCb k cs);go_upto_region 9 with (refine ap rfl (.tmp 5) (.tmp 28) rfl (w.heap.size+1+1+1) rfl k 0 cs ay rfl HL.out al HT4.out.cb ?_)
  clear HT4;generalize w4.setRow (w.heap.size+1+1+1) (ab k cs)=w5 at *;by_cases hc:cs=bs
  ·have HQ:Hid ((!(decide (k=k/\cs=bs)))=false):=by unfold Hid;simp [hc]
   have HE:=He (HY.out (HTE.out.2 hc));have HD:=He (decide_eq_true (HTE.out.2 hc));clear hc;go_wp2_with (first
    | (refine aQ rfl (.tmp 5) rfl (w.heap.size+1+1+1) rfl k cs HL.out HT5.out.cb ?_)
    | (refine aQ rfl (.tmp 1) rfl w.heap.size rfl k bs H56.out HT5.out.blk ?_)
    | (refine oT rfl (.tmp 32) (.tmp 33) _ rfl k k cs bs rfl rfl HL.out H56.out HLB.out HBB.out ?_;rw [HQ.out])
    | (refine aU rfl (.tmp 4) rfl (w.heap.size+1+1) rfl (cM bs) HT5.out.nd ?_)
    | (refine aL rfl (.tmp 2) (.tmp 35) rfl (w.heap.size+1) rfl (cM bs) nd0 rfl HT5.out.res ?_))
   simp only [aY];refine bodyPost_ret (dG rfl _ _ (w.heap.size+1) (cM bs) rfl (HT5.out.res.set _)) rfl ?_;exact ⟨by rw [HE.out,HD.out];rfl,below_setRow HT5.out.bel Ha _⟩
  ·have HQ:Hid ((!(decide (k=k/\cs=bs)))=true):=by unfold Hid;simp [hc]
   have hno:¬ aX k bs:=fun h=>hc (HTE.out.1 h);have HE:=He (HNO.out hno);have HD:=He (decide_eq_false hno);clear hno;clear hc;go_wp2_with (first
    | (refine aQ rfl (.tmp 5) rfl (w.heap.size+1+1+1) rfl k cs HL.out HT5.out.cb ?_)
    | (refine aQ rfl (.tmp 1) rfl w.heap.size rfl k bs H56.out HT5.out.blk ?_)
    | (refine oT rfl (.tmp 32) (.tmp 33) _ rfl k k cs bs rfl rfl HL.out H56.out HLB.out HBB.out ?_;rw [HQ.out])
    | (refine aU rfl (.tmp 4) rfl (w.heap.size+1+1) rfl (cM bs) HT5.out.nd ?_)
    | (refine aL rfl (.tmp 2) (.tmp 35) rfl (w.heap.size+1) rfl (cM bs) nd0 rfl HT5.out.res ?_))
   go_step3;refine HH.out _ _ _ _ _ rfl ?_;go_wp2_with (first
    | (refine cJ rfl rfl ?_)
    | (refine aL rfl (.tmp 2) (.tmp 36) rfl (w.heap.size+1) rfl nd0 nd0 rfl HT5.out.res ?_))
   simp only [aY];refine bodyPost_ret (dG rfl _ _ (w.heap.size+1) nd0 rfl (HT5.out.res.set _)) rfl ?_;exact ⟨by rw [HE.out,HD.out];rfl,below_setRow HT5.out.bel Ha _⟩
 ·have HPK:Hid (dV k (cM bs)=0):=by unfold Hid dV;rw [if_neg hm]
  have HPB:Hid (cT k (cM bs)=ay):=by unfold Hid cT;rw [if_neg hm]
  rw [HPK.out,HPB.out,decide_eq_false hm];have hno:¬ aX k bs:=fun h=>hm (HTD.out.1 h).2.1;have HE:=He (HNO.out hno);have HD:=He (decide_eq_false hno);clear hno;clear hm HPK HPB HTD;have HT5:=He (HT4.out.setCb 0 ay);go_upto_region 9 with (refine ap rfl (.tmp 5) (.tmp 28) rfl (w.heap.size+1+1+1) rfl 0 0 ay ay rfl al al HT4.out.cb ?_)
  clear HT4;generalize w4.setRow (w.heap.size+1+1+1) (ab 0 ay)=w5 at *;go_wp2_with fail
  go_step3;refine HH.out _ _ _ _ _ rfl ?_;go_wp2_with (first
   | (refine cJ rfl rfl ?_)
   | (refine aL rfl (.tmp 2) (.tmp 36) rfl (w.heap.size+1) rfl nd0 nd0 rfl HT5.out.res ?_))
  simp only [aY];refine bodyPost_ret (dG rfl _ _ (w.heap.size+1) nd0 rfl (HT5.out.res.set _)) rfl ?_;exact ⟨by rw [HE.out,HD.out];rfl,below_setRow HT5.out.bel Ha _⟩
theorem qC (g:Nat) (k:Int) (bs:List Int) (h56:bs.length=56) (hB:ax bs) (o m n d:Nat) (w:World) (hg:w.heap[g]?=some (.cells (ab k bs) 37 (0,0))) (hn:m=n) (ho:o+m<=56) (hm:m<=4) :
 Calls Tryz.prog 126 #[.slice (some ⟨g,1+o,none⟩) n d] w fun e w'=>e=.returned (.int .u64 (aB (bh bs o m)))/\w=w' :=
 kv _ (bh bs o m) n d w (by rw [fI h56 ho];exact hn) Ha (gI hB _ _) (lz hg o m)
theorem qD (g:Nat) {m:Nat} (h:m<=35) (w:World):(Instr.slice 22 (.slice (some ⟨g,1,none⟩) 56 56) (some (.int .i64 21)) (some (.int .i64 (21+(m:Int)))) none).run Tryz.prog w=.ok (.slice (some ⟨g,22,none⟩) m 35) w:=by
 have z3:=Tryz.sizeOf5;have e2:Tryz.prog.elem 22=5:=Hc;have e3:Tryz.prog.underlying 22=some (.slice (Tryz.prog.elem 22)):=Hc;rw [run_slice_lh w 22 _ 56 56 e3 .i64 .i64 21 (21+(m:Int)) Ha Ha Ha,e2];have hm:(21+(m:Int)).toNat=21+m:=Ha;simp [z3,sliced,dp,hm]
structure TR (w:World) (p q:Nat) (k:Int) (bs:List Int) (m:Nd) (W:World):Prop where
 hq:p+1<q
 bel:Below p w W
 blk:W.heap[p]?=some (.cells (ab k bs) 37 (0,0))
 res:aR W (p+1) nd0
 nd:aR W q m
section
variable {w W W':World} {p q:Nat} {k:Int} {bs:List Int} {m:Nd}
theorem TR.sz (h:TR w p q k bs m W):q<W.heap.size:=ai h.nd
theorem TR.below (h:TR w p q k bs m W) (hb:Below W.heap.size W W'):TR w p q k bs m W' :=
 ⟨h.hq,h.bel.trans (hb.mono (by have:=h.sz;have:=h.hq;omega)),kb hb h.blk,h.res.below hb,h.nd.below hb⟩
theorem TR.setC (h:TR w p q k bs m W) (i:Nat) (v:Value) (m2:Nd) (he:(bD m).setIfInBounds i v=bD m2):TR w p q k bs m2 (W.setCell ⟨q,i,none⟩ v):=by
 have hq:=h.hq;refine ⟨hq,h.bel.setCell (show p<=q by omega) _,by rw [heap_setCell_other W _ _ _ (show p≠q by omega)];exact h.blk,by unfold aR;rw [heap_setCell_other W _ _ _ (show p+1≠q by omega)];exact h.res,?_⟩;unfold aR;rw [ah h.nd,he]
theorem TR.setT (h:TR w p q k bs m W) (t:List Int):TR w p q k bs { m with t:=t } (W.setCell ⟨q,8,none⟩ (.string (strOfNums t))):=h.setC 8 _ _ rfl
end
structure Kk (w:World) (p:Nat) (k:Int) (bs:List Int) (W:World):Prop where
 bel:Below p w W
 blk:W.heap[p]?=some (.cells (ab k bs) 37 (0,0))
 res:aR W (p+1) nd0
theorem Kk.made {w W:World} {p:Nat} {k:Int} {bs:List Int} {m:Nd} (h:Kk w p k bs W):TR w p W.heap.size k bs m ((W.alloc (.cells (bD nd0) 137)).setRow W.heap.size (bD m)):=by
 have hsz:p+1<W.heap.size:=ai h.res;exact ⟨hsz,below_setRow (h.bel.alloc Ha _) Ha _,by rw [setRow_other _ _ _ _ Ha];exact kb (aK _) h.blk,(h.res.alloc _).other _ Ha,(aR.new W nd0).set m⟩
def KA (p:Nat) (bs:List Int) (W0:World) (i:Nat) (v:Value) (W:World):Prop :=
 match i with
 | 0 | 4 | 8=>v=.slice (some ⟨p,1,none⟩) 56 56
 | 1=>v=.slice (some ⟨p,1,none⟩) 4 56
 | 2=>v=.int .u64 (aB (bh bs 0 4))
 | 3=>v=.int .u32 (aB (bh bs 0 4))
 | 5=>v=.slice (some ⟨p,5,none⟩) 2 52
 | 6=>v=.int .u64 (aB (bh bs 4 2))
 | 7=>v=.int .i64 (aB (bh bs 4 2))
 | 9=>v=.slice (some ⟨p,7,none⟩) 4 50
 | 10=>v=.int .u64 (aB (bh bs 6 4))
 | 11=>v=.int .i64 (aB (bh bs 6 4))
 | 12=>v=.agg (bD (ol bs 0))
 | 13=>v=.pointer (some ⟨W0.heap.size,0,none⟩)
 | _=>True
theorem qE (k:Int) (bs:List Int) (w:World) (hk:i64 k) (h56:bs.length=56) (hB:ax bs):Calls Tryz.prog 125 #[.agg (ab k bs)] w fun e w'=>e=.returned (.tuple #[.agg (bD (bj k bs)),.bool (decide (aX k bs))])/\Below w.heap.size w w':=by
 have hok:=ur h56 hB;have H56:=He h56;have HBB:=He hB;have HT:=He (fun o m n d W hg hn h2 h3=>qC w.heap.size k bs h56 hB o m n d W hg hn h2 h3);have HN2:=He (fun o ho=>kK (o:=o) h56 hB ho);have HN4:=He (fun o ho=>i5 (o:=o) h56 hB ho);have wc0:IntKind.u32.wrap (aB (bh bs 0 4):Int)=aB (bh bs 0 4):=IntWalk.u32_in _ (by have:=HN4.out 0 Ha;omega);have wc1:IntKind.i64.wrap (aB (bh bs 4 2):Int)=aB (bh bs 4 2):=IntWalk.i64_in _ (by have:=HN2.out 4 Ha;omega);have wc2:IntKind.i64.wrap (aB (bh bs 6 4):Int)=aB (bh bs 6 4):=IntWalk.i64_in _ (by have:=HN4.out 6 Ha;omega);have hy:=lA hB 20;obtain ⟨yn,hyn⟩:∃ yn:Nat,bs.getD 20 0=(yn:Int):=⟨(bs.getD 20 0).toNat,Ha⟩
 have hx20:bs[20]?=some (yn:Int):=by
  rw [<- hyn,List.getD,List.getElem?_eq_getElem Ha];rfl
 have HC20:Hid (∀ W:World,W.heap[w.heap.size]?=some (.cells (ab k bs) 37 (0,0))->W.cell? ⟨w.heap.size,21,none⟩=some (.int .u8 yn)):=fun W h=>by
  rw [af h,<- Array.getElem?_toList,bp];exact ku (i:=20) hx20
 have HTS:Hid (cM bs={ ol bs 5 with t:=bh bs 21 yn }):=by unfold Hid cM;rw [hyn];rfl
 have HTD:Hid (aX k bs↔((yn:Int)<=32/\aS k (cM bs)/\dh (bG (cM bs))=bs)):=by unfold Hid aX;rw [hyn]
 have hyl:yn<256:=Ha;have wy:IntKind.i64.wrap (yn:Int)=yn:=IntWalk.i64_in _ Ha;have wy2:IntKind.i64.wrap (21+(yn:Int))=21+(yn:Int):=IntWalk.i64_in _ Ha;have HTL:Hid (yn<=35->(cM bs).t.length=yn):=fun h=>by rw [HTS.out];exact fI H56.out Ha
 have HPUT:=He (fun (h:yn<=35) w=>s8 k (cM bs) w hok (by rw [HTL.out h];omega));clear hk hy hyn hx20;have HY:Hid (aX k bs->bj k bs=cM bs):=fun h=>by unfold bj;rw [if_pos h]
 have HNO:Hid (¬ aX k bs->bj k bs=nd0):=fun h=>by unfold bj;rw [if_neg h]
 have HTR:Hid (Kk w w.heap.size k bs ((w.alloc (Obj.cells (ab k bs) 37)).alloc (Obj.cells (bD nd0) 137))):=by
  have s1:(w.alloc (Obj.cells (ab k bs) 37)).heap.size=w.heap.size+1:=ak _ _;have B1:=aK (w:=w) (Obj.cells (ab k bs) 37);have H1:=aR.new (w.alloc (Obj.cells (ab k bs) 37)) nd0;rw [s1] at H1;exact ⟨B1.alloc B1.size _,kb (aK _) (heap_alloc_new w _),H1⟩
 go_enter Tryz.func125,Tryz.ntmps125;go_upto_region 2 with (refine bA rfl rfl ?_;try simp only [ak])
 generalize (w.alloc (Obj.cells (ab k bs) 37)).alloc (Obj.cells (bD nd0) 137)=W at *;generalize hp:w.heap.size=p at *
 go_cut [5] (fun s wx=>∃ q,s=.pointer (some ⟨q,0,none⟩)/\TR w p q k bs (ol bs 0) wx)
 case first =>
  have hblk:W.drew.heap[p]?=some (.cells (ab k bs) 37 (0,0)):=HTR.out.blk;have hJ0:Dq W.drew false W.drew:=rfl;have HTR0:Hid (Kk w p k bs W.drew):=⟨HTR.out.bel.drew,HTR.out.blk,HTR.out.res⟩
  refine aw (KA p bs W.drew) (fun L W2=>Dq W.drew (L 13) W2) (fun _ _ _=>True) Hc Hc (fun i j v' w' w'' _ _ hv _=>hv) hJ0 ?_;clear hJ0 HTR;generalize W.drew=W0 at *;simp only [bW];refine ⟨?_,?_,?_,?_,?_,?_,?_,?_,?_,?_,?_,?_,?_,?_,?_⟩
  ·refine aa.of rfl fun T W L hag hL hJ hLs hd=>?_;have e4:=Hf hag 4;exact Hi
  ·refine aa.of rfl fun T W L hag hL hJ hLs hd=>?_;have d11:T.getD 11 undef=_:=Hg hd 0 rfl;exact Hi
  ·refine aa.of rfl fun T W L hag hL hJ hLs hd=>?_;have d12:T.getD 12 undef=_:=Hg hd 1 rfl;clear hag hd;go_simp;refine (HT.out 0 4 4 56 W (hJ.blk hblk) rfl Ha Ha).mono ?_;rintro en w' ⟨rfl,rfl⟩;exact ⟨_,rfl,rfl,hJ⟩
  ·refine aa.of rfl fun T W L hag hL hJ hLs hd=>?_;have d13:T.getD 13 undef=_:=Hg hd 2 rfl;have fct0:=wc0;exact Hi
  ·refine aa.of rfl fun T W L hag hL hJ hLs hd=>?_;have e4:=Hf hag 4;exact Hi
  ·refine aa.of rfl fun T W L hag hL hJ hLs hd=>?_;have d15:T.getD 15 undef=_:=Hg hd 4 rfl;exact Hi
  ·refine aa.of rfl fun T W L hag hL hJ hLs hd=>?_;have d16:T.getD 16 undef=_:=Hg hd 5 rfl;clear hag hd;go_simp;refine (HT.out 4 2 2 52 W (hJ.blk hblk) rfl Ha Ha).mono ?_;rintro en w' ⟨rfl,rfl⟩;exact ⟨_,rfl,rfl,hJ⟩
  ·refine aa.of rfl fun T W L hag hL hJ hLs hd=>?_;have d17:T.getD 17 undef=_:=Hg hd 6 rfl;have fct0:=wc1;exact Hi
  ·refine aa.of rfl fun T W L hag hL hJ hLs hd=>?_;have e4:=Hf hag 4;exact Hi
  ·refine aa.of rfl fun T W L hag hL hJ hLs hd=>?_;have d19:T.getD 19 undef=_:=Hg hd 8 rfl;exact Hi
  ·refine aa.of rfl fun T W L hag hL hJ hLs hd=>?_;have d20:T.getD 20 undef=_:=Hg hd 9 rfl;clear hag hd;go_simp;refine (HT.out 6 4 4 50 W (hJ.blk hblk) rfl Ha Ha).mono ?_;rintro en w' ⟨rfl,rfl⟩;exact ⟨_,rfl,rfl,hJ⟩
  ·refine aa.of rfl fun T W L hag hL hJ hLs hd=>?_;have d21:T.getD 21 undef=_:=Hg hd 10 rfl;have fct0:=wc2;exact Hi
  ·refine aa.of rfl fun T W L hag hL hJ hLs hd=>?_;have d14:T.getD 14 undef=_:=Hg hd 3 rfl;have d18:T.getD 18 undef=_:=Hg hd 7 rfl;have d22:T.getD 22 undef=_:=Hg hd 11 rfl;clear hag hd;have hbu:=fun W=>run_build (P:=Tryz.prog) W 137 #[(0,.int .u32 (aB (bh bs 0 4))),(1,.int .i64 (aB (bh bs 4 2))),(2,.int .i64 (aB (bh bs 6 4)))] _ (zR _ _ _);simp only [Array.getD_eq_getD_getElem?] at d14 d18 d22;go_simp;exact ⟨_,rfl,rfl⟩
  ·refine aa.of rfl fun T W L hag hL hJ hLs hd=>?_;have hJ0:W=W0:=by have h:=hJ;unfold Dq at h;rw [show L 13=false from hL] at h;exact h
   subst hJ0;clear hag hd;refine s9 rfl ?_;exact ⟨_,rfl,rfl,rfl,trivial⟩
  ·refine bg.of rfl fun T W L hag hLs hL hJ hd=>?_;have d5:T.getD 5 undef=_:=hd 13 _ Hb rfl;have d23:T.getD 23 undef=_:=hd 12 _ Hb rfl;obtain ⟨f,hf,hT⟩:=aH hag;have h5:=(hf 5).trans d5;have h23:=(hf 23).trans d23;have HJ:=He hJ;clear hag hd d5 d23 hJ hf;rw [hT];clear hT;simp only [List.pop_toArray,List.dropLast_cons_cons,List.dropLast_singleton,List.filterMap_cons,List.filterMap_nil,List.foldl_cons,List.foldl_nil,List.setIfInBounds_toArray,List.set_cons_succ,List.set_cons_zero,h5,h23];have hJ0:W=W0.alloc (.cells (bD nd0) 137):=by have h:=HJ.out;unfold Dq at h;rw [show L 13=true from hLs 13 Hd] at h;exact h
   subst hJ0;have HN0:=aR.new W0 nd0;refine sY (.tmp 5) (.tmp 23) rfl W0.heap.size rfl (ol bs 0) nd0 rfl HN0 ?_;rename_i hJc hKc;go_wp2_with fail
   refine hJc _ _ ?_
   repeat apply Exists.intro
   exact ⟨⟨_,rfl,HTR0.out.made⟩,rfl⟩
 case rest =>
  obtain ⟨q,rfl,htr⟩:=hcut;have HT0:=He htr;clear htr HTR wc0 wc1 wc2;go_wp2_with fail
  go_loopw [6] (fun i wr=>∃ j:Nat,j<=4/\i=.int .i64 j/\Hid (TR w p q k bs (ol bs j) wr)) (fun i _=>(4-intOf i).toNat)
  case atStart=>exact ⟨0,Ha,rfl,HT0⟩
  case round =>
   obtain ⟨j,hj,rfl,HTj⟩:=hrel;clear HT0;have h4:j=0\/j=1\/j=2\/j=3\/j=4:=Ha;rcases h4 with rfl | rfl | rfl | rfl | rfl
   ·have hv:=HN2.out 10 Ha;have wn1:IntKind.i64.wrap (aB (bh bs 10 2):Int)=aB (bh bs 10 2):=IntWalk.i64_in _ Ha;have wn2:IntKind.i64.wrap ((aB (bh bs 10 2):Int)-1)=(aB (bh bs 10 2):Int)-1:=IntWalk.i64_in _ Ha;have c0:wr.cell? ⟨q,3,none⟩=some (.int .i64 0):=(HTj.out.nd.cell 3).trans rfl;have f0:wr.frozen? ⟨q,3,none⟩=false:=az HTj.out.nd 3;have HTn:Hid (TR w p q k bs (ol bs 1) (wr.setCell ⟨q,3,none⟩ (.int .i64 ((aB (bh bs 10 2):Int)-1)))):=HTj.out.setC 3 _ _ rfl;go_wp2_with fail
    refine (HT.out 10 2 2 46 wr HTj.out.blk rfl Ha Ha).mono ?_;rintro e w2 ⟨rfl,rfl⟩;go_wp2_with fail
    go_roundw
    case rel=>exact ⟨1,Ha,rfl,HTn⟩
    case measure=>simp [intOf]
   ·have hv:=HN2.out 12 Ha;have wn1:IntKind.i64.wrap (aB (bh bs 12 2):Int)=aB (bh bs 12 2):=IntWalk.i64_in _ Ha;have wn2:IntKind.i64.wrap ((aB (bh bs 12 2):Int)-1)=(aB (bh bs 12 2):Int)-1:=IntWalk.i64_in _ Ha;have c0:wr.cell? ⟨q,4,none⟩=some (.int .i64 0):=(HTj.out.nd.cell 4).trans rfl;have f0:wr.frozen? ⟨q,4,none⟩=false:=az HTj.out.nd 4;have HTn:Hid (TR w p q k bs (ol bs 2) (wr.setCell ⟨q,4,none⟩ (.int .i64 ((aB (bh bs 12 2):Int)-1)))):=HTj.out.setC 4 _ _ rfl;go_wp2_with fail
    refine (HT.out 12 2 2 44 wr HTj.out.blk rfl Ha Ha).mono ?_;rintro e w2 ⟨rfl,rfl⟩;go_wp2_with fail
    go_roundw
    case rel=>exact ⟨2,Ha,rfl,HTn⟩
    case measure=>simp [intOf]
   ·have hv:=HN2.out 14 Ha;have wn1:IntKind.i64.wrap (aB (bh bs 14 2):Int)=aB (bh bs 14 2):=IntWalk.i64_in _ Ha;have wn2:IntKind.i64.wrap ((aB (bh bs 14 2):Int)-1)=(aB (bh bs 14 2):Int)-1:=IntWalk.i64_in _ Ha;have c0:wr.cell? ⟨q,5,none⟩=some (.int .i64 0):=(HTj.out.nd.cell 5).trans rfl;have f0:wr.frozen? ⟨q,5,none⟩=false:=az HTj.out.nd 5;have HTn:Hid (TR w p q k bs (ol bs 3) (wr.setCell ⟨q,5,none⟩ (.int .i64 ((aB (bh bs 14 2):Int)-1)))):=HTj.out.setC 5 _ _ rfl;go_wp2_with fail
    refine (HT.out 14 2 2 42 wr HTj.out.blk rfl Ha Ha).mono ?_;rintro e w2 ⟨rfl,rfl⟩;go_wp2_with fail
    go_roundw
    case rel=>exact ⟨3,Ha,rfl,HTn⟩
    case measure=>simp [intOf]
   ·have hv:=HN2.out 16 Ha;have wn1:IntKind.i64.wrap (aB (bh bs 16 2):Int)=aB (bh bs 16 2):=IntWalk.i64_in _ Ha;have wn2:IntKind.i64.wrap ((aB (bh bs 16 2):Int)-1)=(aB (bh bs 16 2):Int)-1:=IntWalk.i64_in _ Ha;have c0:wr.cell? ⟨q,6,none⟩=some (.int .i64 0):=(HTj.out.nd.cell 6).trans rfl;have f0:wr.frozen? ⟨q,6,none⟩=false:=az HTj.out.nd 6;have HTn:Hid (TR w p q k bs (ol bs 4) (wr.setCell ⟨q,6,none⟩ (.int .i64 ((aB (bh bs 16 2):Int)-1)))):=HTj.out.setC 6 _ _ rfl;go_wp2_with fail
    refine (HT.out 16 2 2 40 wr HTj.out.blk rfl Ha Ha).mono ?_;rintro e w2 ⟨rfl,rfl⟩;go_wp2_with fail
    go_roundw
    case rel=>exact ⟨4,Ha,rfl,HTn⟩
    case measure=>simp [intOf]
   ·have hv:=HN2.out 18 Ha;have wn1:IntKind.i64.wrap (aB (bh bs 18 2):Int)=aB (bh bs 18 2):=IntWalk.i64_in _ Ha;have wn2:IntKind.i64.wrap ((aB (bh bs 18 2):Int)-1)=(aB (bh bs 18 2):Int)-1:=IntWalk.i64_in _ Ha;have c0:wr.cell? ⟨q,7,none⟩=some (.int .i64 0):=(HTj.out.nd.cell 7).trans rfl;have f0:wr.frozen? ⟨q,7,none⟩=false:=az HTj.out.nd 7;have HTn:Hid (TR w p q k bs (ol bs 5) (wr.setCell ⟨q,7,none⟩ (.int .i64 ((aB (bh bs 18 2):Int)-1)))):=HTj.out.setC 7 _ _ rfl;go_wp2_with fail
    refine (HT.out 18 2 2 38 wr HTj.out.blk rfl Ha Ha).mono ?_;rintro e w2 ⟨rfl,rfl⟩;go_upto_region 8 with fail
    clear HTj hv wn1 wn2 c0 f0;generalize wr.setCell ⟨q,7,none⟩ (.int .i64 ((aB (bh bs 18 2):Int)-1))=w3 at *;have c20:=HC20.out w3 HTn.out.blk;by_cases h35:35<yn
    ·have hq:=h35;have hno:¬ aX k bs:=fun h=>by have:=(HTD.out.1 h).1;omega
     have HE:=He (HNO.out hno);have HD:=He (decide_eq_false hno);clear hno;go_wp2_with (first
      | (refine cJ rfl rfl ?_)
      | (refine aL rfl (.tmp 2) (.tmp 53) rfl (p+1) rfl nd0 nd0 rfl HTn.out.res ?_))
     refine bodyPost_ret (dG rfl _ _ (p+1) nd0 rfl (HTn.out.res.set _)) rfl ?_;exact ⟨by rw [HE.out,HD.out];rfl,by first | exact below_setRow HTn.out.bel Ha _ | (rw [hp];exact below_setRow HTn.out.bel Ha _)⟩
    have hsl:=fun W=>qD p (m:=yn) Ha W;have hcv:=dY (c:=35) (lz HTn.out.blk 21 yn) (show (bh bs 21 yn).length=yn from fI H56.out Ha);change (convert 22 9 (.slice (some ⟨p,22,none⟩) yn 35)).run Tryz.prog w3=.ok (.string (strOfNums (bh bs 21 yn))) w3 at hcv;have c8:=HTn.out.nd.cells.2.2.2.2;have f8:w3.frozen? ⟨q,8,none⟩=false:=az HTn.out.nd 8;have HTs:=He (HTn.out.setT (bh bs 21 yn));rw [<- HTS.out] at HTs;have HPU:=He (HPUT.out Ha);go_upto_region 11 with fail
    clear HTn hsl hcv c8 f8 c20 HPUT HTL;generalize w3.setCell ⟨q,8,none⟩ (.string (strOfNums (bh bs 21 yn)))=w4 at *;have ck:w4.cell? ⟨p,0,none⟩=some (.int .i64 k):=ky HTs.out.blk (bp _ _);go_wp2_with (refine aU rfl (.tmp 5) rfl q rfl (cM bs) HTs.out.nd ?_)
    refine (HPU.out _).mono ?_;rintro e w5 ⟨rfl,hb5⟩;have HT5:=He (HTs.out.below hb5);clear hb5 HTs ck;have HL:Hid ((cT k (cM bs)).length=56):=ly;have HLB:Hid (ax (cT k (cM bs))):=mz hok.t;have HTK:Hid (aX k bs↔(yn<=32/\aS k (cM bs)/\(dV k (cM bs)=k/\cT k (cM bs)=bs))):=HTD.out.trans (by
     constructor
     ·rintro ⟨h1,h2,h3⟩;exact ⟨Ha,h2,by unfold dV;rw [if_pos h2],by unfold cT;rw [if_pos h2];exact h3⟩
     ·rintro ⟨h1,h2,h3,h4⟩;refine ⟨Ha,h2,?_⟩;unfold cT at h4;rw [if_pos h2] at h4;exact h4)
    have HTM:Hid (aS k (cM bs)->yn<=32):=fun h=>by
     have h1:=h.tl;rw [HTS.out] at h1;have h2:(bh bs 21 yn).length=yn:=fI H56.out Ha;show yn<=32;rw [<- h2];exact h1
    clear HTD HPU;generalize dV k (cM bs)=pk at *;generalize cT k (cM bs)=pb at *;have HX5:=He (HT5.out.below (below_setRow (aK (w:=w5) (Obj.cells (ab 0 ay) 37)) (Nat.le_refl _) (ab pk pb)));have HM5:=heap_alloc_new w5 (Obj.cells (ab 0 ay) 37);have HM6:=He (am (D:=ab pk pb) HM5);go_upto_region 12 with (first
     | (refine aq rfl rfl ?_)
     | (refine ap rfl (.tmp 7) (.tmp 68) rfl w5.heap.size rfl pk 0 pb ay rfl HL.out al HM5 ?_))
    clear HM5 HT5;generalize (w5.alloc (Obj.cells (ab 0 ay) 37)).setRow w5.heap.size (ab pk pb)=w6 at *;generalize w5.heap.size=r at *;by_cases hm:aS k (cM bs)
    ·rw [decide_eq_true hm];by_cases hc:pk=k/\pb=bs
     ·have HQ:Hid ((!(decide (pk=k/\pb=bs)))=false):=by unfold Hid;simp [hc]
      have htk:=HTK.out.2 ⟨HTM.out hm,hm,hc⟩;have HE:=He (HY.out htk);have HD:=He (decide_eq_true htk);clear htk hc hm;go_wp2_with (first
       | (refine aO Hl (.tmp 7) rfl r rfl pk pb HL.out HM6.out ?_)
       | (refine aO Hl (.tmp 1) rfl p rfl k bs H56.out HX5.out.blk ?_)
       | (refine cy Hl (.tmp 73) (.tmp 74) _ rfl pk k pb bs rfl rfl HL.out H56.out HLB.out HBB.out ?_;rw [HQ.out])
       | (refine cJ rfl rfl ?_)
       | (refine aL rfl (.tmp 2) (.tmp 77) rfl (p+1) rfl nd0 nd0 rfl HX5.out.res ?_)
       | (refine aU rfl (.tmp 5) rfl q rfl (cM bs) HX5.out.nd ?_)
       | (refine aL rfl (.tmp 2) (.tmp 78) rfl (p+1) rfl (cM bs) nd0 rfl HX5.out.res ?_))
      refine bodyPost_ret (dG rfl _ _ (p+1) (cM bs) rfl (HX5.out.res.set _)) rfl ?_;exact ⟨by rw [HE.out,HD.out];rfl,by first | exact below_setRow HX5.out.bel Ha _ | (rw [hp];exact below_setRow HX5.out.bel Ha _)⟩
     ·have HQ:Hid ((!(decide (pk=k/\pb=bs)))=true):=by unfold Hid;simp [hc]
      have hno:¬ aX k bs:=fun h=>hc (HTK.out.1 h).2.2;have HE:=He (HNO.out hno);have HD:=He (decide_eq_false hno);clear hno;clear hc hm;go_wp2_with (first
       | (refine aO Hl (.tmp 7) rfl r rfl pk pb HL.out HM6.out ?_)
       | (refine aO Hl (.tmp 1) rfl p rfl k bs H56.out HX5.out.blk ?_)
       | (refine cy Hl (.tmp 73) (.tmp 74) _ rfl pk k pb bs rfl rfl HL.out H56.out HLB.out HBB.out ?_;rw [HQ.out])
       | (refine cJ rfl rfl ?_)
       | (refine aL rfl (.tmp 2) (.tmp 77) rfl (p+1) rfl nd0 nd0 rfl HX5.out.res ?_)
       | (refine aU rfl (.tmp 5) rfl q rfl (cM bs) HX5.out.nd ?_)
       | (refine aL rfl (.tmp 2) (.tmp 78) rfl (p+1) rfl (cM bs) nd0 rfl HX5.out.res ?_))
      refine bodyPost_ret (dG rfl _ _ (p+1) nd0 rfl (HX5.out.res.set _)) rfl ?_;exact ⟨by rw [HE.out,HD.out];rfl,by first | exact below_setRow HX5.out.bel Ha _ | (rw [hp];exact below_setRow HX5.out.bel Ha _)⟩
    ·rw [decide_eq_false hm];have hno:¬ aX k bs:=fun h=>hm (HTK.out.1 h).2.1;have HE:=He (HNO.out hno);have HD:=He (decide_eq_false hno);clear hno;clear hm;have HQ:Hid (True):=trivial;go_wp2_with (first
      | (refine aO Hl (.tmp 7) rfl r rfl pk pb HL.out HM6.out ?_)
      | (refine aO Hl (.tmp 1) rfl p rfl k bs H56.out HX5.out.blk ?_)
      | (refine cy Hl (.tmp 73) (.tmp 74) _ rfl pk k pb bs rfl rfl HL.out H56.out HLB.out HBB.out ?_;rw [HQ.out])
      | (refine cJ rfl rfl ?_)
      | (refine aL rfl (.tmp 2) (.tmp 77) rfl (p+1) rfl nd0 nd0 rfl HX5.out.res ?_)
      | (refine aU rfl (.tmp 5) rfl q rfl (cM bs) HX5.out.nd ?_)
      | (refine aL rfl (.tmp 2) (.tmp 78) rfl (p+1) rfl (cM bs) nd0 rfl HX5.out.res ?_))
     refine bodyPost_ret (dG rfl _ _ (p+1) nd0 rfl (HX5.out.res.set _)) rfl ?_;exact ⟨by rw [HE.out,HD.out];rfl,by first | exact below_setRow HX5.out.bel Ha _ | (rw [hp];exact below_setRow HX5.out.bel Ha _)⟩
section
variable {H:Type} {enc:TypeId × Value->H} {w:World} {base:Nat} {spare:Nat->Bool} {held:Bool}
end
end Go.Proofs.YtegjelaejbacnaaGreat
