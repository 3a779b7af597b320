/- For VolAll: contracts and facts, part 15. -/
import Derived.Laws.BitsAllLaws
import Derived.Deep.QuietTactic
import Derived.Deep.DeepCutAuto
import Derived.StillTailTactics
import Derived.Test.YtamnpblijdgdaaaGreatV13
import Derived.Test.YtamnpblijdgdaaaGreatV14
namespace Go.Proofs.YtamnpblijdgdaaaGreat
open Go.ChangeShapes Go.WideShapes Go.ChangeAt Go.RowKit
set_option linter.unusedVariables false
set_option maxRecDepth 100000
structure Wr where
 (t k:Int) (bs:List Int)
structure Wr.Ok (x:Wr):Prop where
 t:i64 x.t
 k:i64 x.k
 len:x.bs.length=56
 b:AllB x.bs
def WrsOk (l:List Wr):Prop:=∀ x∈l,x.Ok
def wrL (x:Wr):List Value:=.int .i64 x.t :: blkL x.k x.bs
def wrA (x:Wr):Array Value:=(wrL x).toArray
theorem wrL_length {x:Wr} (h:x.bs.length=56):(wrL x).length=58:=by unfold wrL blkL;simp [Bs_length,h]
theorem wrA_size {x:Wr} (h:x.bs.length=56):(wrA x).size=58:=by unfold wrA;simp [wrL_length h]
theorem wrA_list (x:Wr):(wrA x).toList=wrL x:=by unfold wrA;simp
theorem wrL_one (x:Wr):∀ v∈wrL x,v.oneCell'=true:=by
 intro v hv
 unfold wrL blkL at hv
 simp only [List.mem_cons] at hv
 rcases hv with rfl | rfl | hv
 ·rfl
 ·rfl
 ·exact Bs_one x.bs v hv
theorem wrA_one (x:Wr):(wrA x).all (·.oneCell')=true:=Array.all_eq_true_iff_forall_mem.2 fun v hv=>wrL_one x v (by unfold wrA at hv;simpa using hv)
def WrAt (w:World) (p:Addr) (x:Wr):Prop:=∀ j v,(wrL x)[j]?=some v→w.cell? (p.add j)=some v
def Wrs (w:World) (A:Option Addr) (l:List Wr):Prop:=∀ i x,l[i]?=some x→∃ a,A=some a∧WrAt w (a.add (i*58)) x
theorem WrAt.keep {w w':World} {p:Addr} {x:Wr} (h:WrAt w p x) (hb:Below w.heap.size w w'):WrAt w' p x:=fun j v hj=>keepC hb (h j v hj)
theorem Wrs.keep {w w':World} {A:Option Addr} {l:List Wr} (h:Wrs w A l) (hb:Below w.heap.size w w'):Wrs w' A l:=fun i x hi =>
 let ⟨a,e,hs⟩:=h i x hi;⟨a,e,hs.keep hb⟩
def MayL (l:List Wr):Prop:=(1≤l.length∧l.length≤12)∧(∀ x∈l,MayB x.k x.t)∧(l.map (·.t)).Nodup
instance (l:List Wr):Decidable (MayL l):=by unfold MayL;infer_instance
def numV (xs:List Int):Nat:=xs.foldl (fun n x=>n*256+x.toNat) 0
theorem numV_snoc (xs:List Int) (x:Int):numV (xs++[x])=numV xs*256+x.toNat:=by unfold numV;rw [List.foldl_append];rfl
theorem numV_lt:∀ (s:Nat) (xs:List Int),xs.length=s→AllB xs→numV xs<256 ^ s:=by
 intro s
 induction s with
 | zero=>intro xs h _;rw [List.length_eq_zero_iff.1 h];unfold numV;simp
 | succ s ih =>
   intro xs h hB
   rcases List.eq_nil_or_concat xs with rfl | ⟨l,x,rfl⟩
   ·cases h
   ·rw [List.concat_eq_append] at *
    rw [numV_snoc,Nat.pow_succ]
    have h1:=ih l (by simp at h;exact h) (fun y hy=>hB y (by simp [hy]))
    have h2:=hB x (by simp)
    omega
theorem be_mul (n x:Nat) (hx:x<256):∀ s,be (n*256+x) (s+1)=be n s++[(x:Int)]
 | 0=>by
   show [(((n*256+x)/256 ^ 0%256:Nat):Int)]=[(x:Int)]
   rw [Nat.pow_zero,Nat.div_one,show (n*256+x)%256=x by omega]
 | s+1=>by
   show (((n*256+x)/256 ^ (s+1)%256:Nat):Int) :: be (n*256+x) (s+1)=(((n/256 ^ s%256:Nat):Int) :: be n s)++[(x:Int)]
   rw [be_mul n x hx s,Nat.pow_succ,Nat.mul_comm (256 ^ s) 256,← Nat.div_div_eq_div_mul,show (n*256+x)/256=n by omega]
   rfl
theorem be_snoc (n s:Nat):be n (s+1)=be (n/256) s++[((n%256:Nat):Int)]:=by
 have h:=be_mul (n/256) (n%256) (Nat.mod_lt _ (by omega)) s
 rwa [show n/256*256+n%256=n by omega] at h
theorem numV_be:∀ (s n:Nat),n<256 ^ s→numV (be n s)=n
 | 0,n,h=>by simp at h;subst h;rfl
 | s+1,n,h=>by
   rw [be_snoc,numV_snoc,numV_be s (n/256) (by rw [Nat.pow_succ] at h;exact Nat.div_lt_of_lt_mul (by omega)),Int.toNat_natCast]
   omega
def fillB (xs:List Int):List Int:=xs++List.replicate (60-xs.length) 0
def sumd (xs:List Int):List Int:=fillB xs++be (sumV (fillB xs)) 4
theorem fillB_length {xs:List Int} (h:xs.length≤60):(fillB xs).length=60:=by unfold fillB;simp;omega
theorem sumd_length {xs:List Int} (h:xs.length≤60):(sumd xs).length=64:=by unfold sumd;rw [List.length_append,fillB_length h,be_length]
theorem fillB_allB {xs:List Int} (h:AllB xs):AllB (fillB xs):=AllB.append h fun x hx=>by rw [List.eq_of_mem_replicate hx];omega
theorem sumd_allB {xs:List Int} (h:AllB xs):AllB (sumd xs):=AllB.append (fillB_allB h) (be_allB _ _)
def told:List Wr→List Int
 | []=>[]
 | x :: l=>(be x.t.toNat 2++[x.k])++told l
theorem told_append:∀ (l m:List Wr),told (l++m)=told l++told m
 | [],_=>rfl
 | x :: l,m=>by show _++told (l++m)=_;rw [told_append l m,← List.append_assoc];rfl
theorem told_length:∀ (l:List Wr),(told l).length=3*l.length
 | []=>rfl
 | x :: l=>by
   show ((be x.t.toNat 2++[x.k])++told l).length=_
   rw [List.length_append,told_length l];simp [be_length];omega
theorem told_allB:∀ {l:List Wr},(∀ x∈l,MayB x.k x.t)→AllB (told l)
 | [],_=>fun x hx=>by cases hx
 | x :: l,h=>AllB.append (AllB.append (be_allB _ _) (fun y hy=>by
    simp only [List.mem_cons,List.not_mem_nil,or_false] at hy
    subst hy
    have:=(h x (by simp)).1
    omega)) (told_allB fun y hy=>h y (by simp [hy]))
def front (lb:Int) (e s:Nat) (n:Nat):List Int:=[72,lb]++be e 4++be s 4++[(n:Int)]
theorem front_length (lb:Int) (e s n:Nat):(front lb e s n).length=11:=by unfold front;simp [be_length]
def headR (lb:Int) (e s:Nat) (l:List Wr):List Int:=front lb e s l.length++told l
theorem headR_length (lb:Int) (e s:Nat) (l:List Wr):(headR lb e s l).length=11+3*l.length:=by unfold headR;rw [List.length_append,front_length,told_length]
theorem front_allB {lb:Int} (e s:Nat) {n:Nat} (hl:0≤lb∧lb≤255) (hn:n≤12):AllB (front lb e s n):=by
 unfold front
 refine AllB.append (AllB.append (AllB.append (fun x hx=>?_) (be_allB _ _)) (be_allB _ _)) (fun x hx=>?_)
 ·simp only [List.mem_cons,List.not_mem_nil,or_false] at hx
  rcases hx with rfl | rfl <;> omega
 ·simp only [List.mem_cons,List.not_mem_nil,or_false] at hx
  subst hx;omega
theorem headR_allB {lb:Int} (e s:Nat) {l:List Wr} (hl:0≤lb∧lb≤255) (hm:MayL l):AllB (headR lb e s l):=AllB.append (front_allB e s hl hm.1.2) (told_allB hm.2.1)
def bearB (e s:Nat) (bs:List Int):List Int:=bs++be e 2++be s 2
theorem bearB_length {e s:Nat} {bs:List Int} (h:bs.length=56):(bearB e s bs).length=60:=by unfold bearB;simp [be_length,h]
theorem bearB_allB {e s:Nat} {bs:List Int} (h:AllB bs):AllB (bearB e s bs):=AllB.append (AllB.append h (be_allB _ _)) (be_allB _ _)
def putL (lb:Int) (e s:Nat) (l:List Wr):List (List Int):=sumd (headR lb e s l) :: l.map fun x=>sumd (bearB e s x.bs)
theorem putL_length (lb:Int) (e s:Nat) (l:List Wr):(putL lb e s l).length=1+l.length:=by unfold putL;simp;omega
def anchorB (lb:Int) (e:Nat):List Int:=sumd ([65,78,lb]++be e 4)
theorem anchorB_length (lb:Int) (e:Nat):(anchorB lb e).length=64:=sumd_length (by simp [be_length])
theorem anchorB_allB {lb:Int} (e:Nat) (h:0≤lb∧lb≤255):AllB (anchorB lb e):=sumd_allB (AllB.append (fun x hx=>by
 simp only [List.mem_cons,List.not_mem_nil,or_false] at hx
 rcases hx with rfl | rfl | rfl <;> omega) (be_allB _ _))
def cnt (log:List (List Int)):Nat:=((log.headD []).getD 10 0).toNat
def padB (b:List Int):List Int:=b.take 56++List.replicate (56-b.length) 0
theorem padB_length (b:List Int):(padB b).length=56:=by unfold padB;simp;omega
theorem padB_allB {b:List Int} (h:AllB b):AllB (padB b):=AllB.append (fun x hx=>h x (List.mem_of_mem_take hx)) fun x hx=>by rw [List.eq_of_mem_replicate hx];omega
def wAt (log:List (List Int)) (i:Nat):Wr:=⟨numV (((log.headD []).drop (11+3*i)).take 2),(log.headD []).getD (13+3*i) 0,padB (log.getD (1+i) [])⟩
def readW (log:List (List Int)) (n:Nat):List Wr:=(List.range n).map (wAt log)
theorem readW_length (log:List (List Int)) (n:Nat):(readW log n).length=n:=by unfold readW;simp
theorem readW_snoc (log:List (List Int)) (n:Nat):readW log (n+1)=readW log n++[wAt log n]:=by unfold readW;rw [List.range_succ,List.map_append];rfl
def CanRead (log:List (List Int)):Prop:=(log.headD []).length=64∧cnt log≤12∧cnt log<log.length
instance (log:List (List Int)):Decidable (CanRead log):=by unfold CanRead;infer_instance
def Taken (lb:Int) (e s:Nat) (log:List (List Int)):Prop:=CanRead log∧MayL (readW log (cnt log))∧putL lb e s (readW log (cnt log))=log.take (1+cnt log)
instance (lb:Int) (e s:Nat) (log:List (List Int)):Decidable (Taken lb e s log):=by unfold Taken;infer_instance
def takeV (lb:Int) (e s:Nat) (log:List (List Int)):List Wr:=if Taken lb e s log then readW log (cnt log) else []
def takeN (lb:Int) (e s:Nat) (log:List (List Int)):Nat:=if Taken lb e s log then 1+cnt log else 0
def TxOk (ls:List (List Int)):Prop:=∀ b∈ls,AllB b
theorem wAt_ok {log:List (List Int)} (h:TxOk log) (i:Nat):(wAt log i).Ok:=by
 have hf:AllB (log.headD []):=by
  cases log with
  | nil=>exact fun x hx=>by cases hx
  | cons b l=>exact h b (by simp)
 refine ⟨?_,?_,padB_length _,padB_allB ?_⟩
 ·have h1:numV (((log.headD []).drop (11+3*i)).take 2)<256 ^ (((log.headD []).drop (11+3*i)).take 2).length:=numV_lt _ _ rfl (fun x hx=>hf x (List.mem_of_mem_drop (List.mem_of_mem_take hx)))
  have h2:256 ^ (((log.headD []).drop (11+3*i)).take 2).length≤256 ^ 2:=Nat.pow_le_pow_right (by omega) (List.length_take_le _ _)
  unfold wAt;simp only;constructor <;> omega
 ·show i64 ((log.headD []).getD (13+3*i) 0)
  rw [List.getD]
  cases hx:(log.headD [])[13+3*i]? with
  | none=>simp;constructor <;> omega
  | some x=>have:=hf x (List.mem_of_getElem? hx);simp;constructor <;> omega
 ·rw [List.getD]
  cases hx:log[1+i]? with
  | none=>exact fun x hx=>by cases hx
  | some b=>exact h b (List.mem_of_getElem? hx)
theorem readW_ok {log:List (List Int)} (h:TxOk log) (n:Nat):WrsOk (readW log n):=fun x hx=>by
 unfold readW at hx
 obtain ⟨i,_,rfl⟩:=List.mem_map.1 hx
 exact wAt_ok h i
theorem takeV_ok {lb:Int} {e s:Nat} {log:List (List Int)} (h:TxOk log):WrsOk (takeV lb e s log):=by
 unfold takeV
 split
 ·exact readW_ok h _
 ·exact fun x hx=>by cases hx
def Tx (w:World) (A:Option Addr) (ls:List (List Int)):Prop:=∀ i b,ls[i]?=some b→∃ a B d,A=some a∧w.cell? (a.add i)=some (.slice B b.length d)∧b.length≤d∧d≤9223372036854775807∧Byt w B b
theorem Tx.keep {w w':World} {A:Option Addr} {ls:List (List Int)} (h:Tx w A ls) (hb:Below w.heap.size w w'):Tx w' A ls:=fun i b hi =>
 let ⟨a,B,d,e,hc,h1,h2,hy⟩:=h i b hi;⟨a,B,d,e,keepC hb hc,h1,h2,hy.keep hb⟩
theorem Tx.take {w:World} {A:Option Addr} {ls:List (List Int)} (h:Tx w A ls) (k:Nat):Tx w A (ls.take k):=fun i x hi=>h i x (by
 rw [List.getElem?_take] at hi;split at hi;exact hi;cases hi)
def OwnTx (w:World) (base:Nat) (v:Value) (ls:List (List Int)):Prop :=
 ∃ xs:List Value,w.ownsRow base 48 1 v ls.length xs∧∀ (i:Nat) (b:List Int),ls[i]?=some b→∃ u,xs[i]?=some u∧w.ownsRow base 5 1 u b.length (Bs b)
theorem OwnTx.mono {w:World} {b b':Nat} {v:Value} {ls:List (List Int)} (h:OwnTx w b v ls) (hb:b'≤b):OwnTx w b' v ls:=by
 obtain ⟨xs,h1,h2⟩:=h
 exact ⟨xs,h1.mono hb,fun i b hi=>let ⟨u,e,h3⟩:=h2 i b hi;⟨u,e,h3.mono hb⟩⟩
theorem OwnTx.keep {w w':World} {base:Nat} {v:Value} {ls:List (List Int)} (h:OwnTx w base v ls) (hb:Below w.heap.size w w'):OwnTx w' base v ls:=by
 obtain ⟨xs,h1,h2⟩:=h
 exact ⟨xs,ownB h1 hb,fun i b hi=>let ⟨u,e,h3⟩:=h2 i b hi;⟨u,e,ownB h3 hb⟩⟩
theorem OwnTx.nil (w:World) (base:Nat):OwnTx w base (.slice none 0 0) []:=⟨[],World.ownsRow_nil _ _ _ _,fun i b hi=>by cases hi⟩
theorem OwnTx.tx {w:World} {base:Nat} {v:Value} {ls:List (List Int)} (h:OwnTx w base v ls):∃ A d,v=.slice A ls.length d∧ls.length≤d∧d≤9223372036854775807∧Tx w A ls:=by
 obtain ⟨xs,h1,h2⟩:=h
 have key:∀ i b,ls[i]?=some b→∃ B d,xs[i]?=some (Value.slice B b.length d)∧b.length≤d∧d≤9223372036854775807∧Byt w B b:=fun i b hi=>by
  obtain ⟨u,e,h3⟩:=h2 i b hi
  obtain ⟨B,d,rfl,h4,h5,h6⟩:=byt_own h3 rfl
  exact ⟨B,d,e,h4,h5,h6⟩
 rcases h1.2 with ⟨rfl,h0⟩ | ⟨g,cap,cur,rfl,hb,hg,hn',hm,hs,ht⟩
 ·refine ⟨none,0,by rw [h0],by omega,by omega,fun i b hi=>?_⟩
  rw [List.length_eq_zero_iff.1 h0] at hi;cases hi
 ·refine ⟨some ⟨g,0,none⟩,cap,rfl,hn',by simp only [maxLen] at hm;omega,fun i b hi=>?_⟩
  obtain ⟨B,d,e,h4,h5,h6⟩:=key i b hi
  exact ⟨_,B,d,rfl,h1.cells (g:=g) rfl _ _ e,h4,h5,h6⟩
theorem types_ne:(48:TypeId)≠5:=by decide
theorem own_far {w:World} {b b':Nat} {t t':TypeId} {sz sz' n n':Nat} {v v':Value} {xs xs':List Value} (hne:t≠t') (h:w.ownsRow b t sz v n xs) (h':w.ownsRow b' t' sz' v' n' xs'):v'.ownBlock=none∨v'.ownBlock≠v.ownBlock:=by
 rcases h'.2 with ⟨rfl,_⟩ | ⟨g',cap',cur',rfl,_,hg',_⟩
 ·exact Or.inl rfl
 ·right
  rcases h.2 with ⟨rfl,_⟩ | ⟨g,cap,cur,rfl,_,hg,_⟩
  ·simp [Value.ownBlock]
  ·intro e
   simp [Value.ownBlock] at e
   subst e
   rw [hg] at hg'
   injection hg' with hg'
   injection hg' with e1 e2
   exact hne e2
def Near (w:World) (R:Option Nat) (v:Value):Prop:=v.ownBlock=R∨∀ k,v.ownBlock=some k→w.heap.size≤k
theorem Near.step {w W:World} {R:Option Nat} {v v':Value} (h:Near w R v) (hw:w.heap.size≤W.heap.size) (h':Near W v.ownBlock v'):Near w R v':=by
 rcases h' with e | e
 ·rcases h with h | h
  ·exact Or.inl (e.trans h)
  ·exact Or.inr fun k hk=>h k (by rw [← e];exact hk)
 ·exact Or.inr fun k hk=>Nat.le_trans hw (e k hk)
theorem grown_step {w W W':World} {R:Option Nat} {v:Value} (h:w.grownBy W R) (hv:Near w R v) (h':W.grownBy W' v.ownBlock):w.grownBy W' R :=
 ⟨h'.os.trans h.os,h'.tape.trans h.tape,h'.output.trans h.output,Nat.le_trans h.size h'.size,fun k hk hr =>
   (h'.block k (Nat.lt_of_lt_of_le hk h.size) (fun e=>by
     rcases hv with hv | hv
     ·exact hr (by rw [e,hv])
     ·have:=hv k e.symm;omega)).trans (h.block k hk hr)⟩
theorem grown_below {w w':World} {R:Option Nat} {base:Nat} (h:w.grownBy w' R) (hb:base≤w.heap.size) (hR:∀ k,R=some k→base≤k):Below base w w':=(Below.refl _ _).grown h hb hR
theorem Near.at_alloc {W:World} {R:Option Nat} {v:Value} {o:Obj} (h:Near (W.alloc o) R v):Near W R v:=h.imp id fun h k hk=>by have:=h k hk;rw [size_alloc'] at this;omega
def App (w:World) (base:Nat) (v:Value) (n:Nat) (xs:List Int) (R:Option Nat):Prop :=
 (w.ownsRow base 5 1 v n (Bs xs)∧R=v.ownBlock)∨(R=none∧∃ g o,v=.slice (some ⟨g,o,none⟩) n n∧xs.length=n∧Byt w (some ⟨g,o,none⟩) xs)
theorem App.alloc {w:World} {base:Nat} {v:Value} {n:Nat} {xs:List Int} {R:Option Nat} (h:App w base v n xs R) (o:Obj):App (w.alloc o) base v n xs R:=by
 rcases h with ⟨h,hR⟩ | ⟨hR,g,o',e,h1,h2⟩
 ·exact Or.inl ⟨h.alloc o,hR⟩
 ·exact Or.inr ⟨hR,g,o',e,h1,h2.alloc o⟩
theorem byt_cells {w:World} {a:Addr} {xs:List Int} (h:Byt w (some a) xs):∀ j u,(Bs xs)[j]?=some u→w.cell? (a.add j)=some u:=fun j u hj=>by
 unfold Bs at hj
 rw [List.getElem?_map] at hj
 obtain ⟨x,hx,rfl⟩:=Option.map_eq_some_iff.1 hj
 obtain ⟨a',e,hc⟩:=h j x hx
 injection e with e;subst e;exact hc
theorem run_app_fullA (w:World) (ty:TypeId) (ga:Addr) (n:Nat) (xs:List Int) (hx:Byt w (some ga) xs) (hn:xs.length=n) (A:Option Addr) (m c:Nat) (ys:List Int) (hy:Byt w A ys) (hm:ys.length=m)
 (h0:0<m) (h63:n+m≤1000000) :
 ∃ v' w',(Builtin.append_ #[48,48] ty #[.slice (some ga) n n,.slice A m c]).run Tryz.prog w=.ok v' w'∧(∀ base,base≤w.heap.size→w'.ownsRow base 5 1 v' (n+m) (Bs (xs++ys)))∧w.grownBy w' none:=by
 obtain ⟨i0,hi,hz0,hz1,hz2⟩:=info_parts info5
 have hA:∃ a,A=some a:=by
  cases ys with
  | nil=>simp at hm;omega
  | cons y l=>obtain ⟨a,e,_⟩:=hy 0 y rfl;exact ⟨a,e⟩
 obtain ⟨a,rfl⟩:=hA
 have hge:=grownCap_ge w (n+m) n 5
 have hcm:grownCap w (n+m) n 5≤maxLen:=grownCap_le_maxLen w (n+m) n _ (by simp only [maxLen];omega)
 have hr:=run_append_grow (P:=Tryz.prog) w 48 ty 5 i0 (.int .u8 0) Tryz.underlying48 hi hz0 ga n n (Bs xs) (by rw [Bs_length,hz1];omega) (byt_cells hx) a m c (Bs ys) (by rw [Bs_length,hz1];omega) (byt_cells hy) (by omega) (by omega)
  (by rw [hz2];have:=nextslicecap_le (show n<n+m by omega);omega)
 have hlen:(Bs (xs++ys)).length=(n+m)*1:=by rw [Bs_length,List.length_append];omega
 refine ⟨_,_,hr,fun base hb=>⟨hlen,.inr ⟨w.heap.size,_,_,rfl,hb,heap_alloc_new w.drew _,hge,hcm,?_,?_⟩⟩,⟨rfl,rfl,rfl,by simp,fun k hk _=>heap_alloc_old w.drew _ hk⟩⟩
 ·simp only [Array.size_append,List.size_toArray,size_zeroCells,Bs_length,hn,hm]
  show n+m+(_-(n+m))*1=_*1
  omega
 ·simp only [Array.toList_append,List.append_assoc]
  rw [← List.append_assoc,← hlen,Bs_append]
  exact List.take_left
theorem run_app_any (w:World) (ty:TypeId) (base:Nat) (v:Value) (n:Nat) (xs:List Int) (R:Option Nat) (happ:App w base v n xs R) (A:Option Addr) (m c:Nat) (ys:List Int) (hy:Byt w A ys) (hm:ys.length=m)
 (h0:0<m) (h63:n+m≤1000000) (hbase:base≤w.heap.size) :
 ∃ v' w',(Builtin.append_ #[48,48] ty #[v,.slice A m c]).run Tryz.prog w=.ok v' w'∧w'.ownsRow base 5 1 v' (n+m) (Bs (xs++ys))∧w.grownBy w' R∧Near w R v':=by
 rcases happ with ⟨hown,hR⟩ | ⟨hR,g,o',rfl,hn,hxs⟩
 ·obtain ⟨v',w',hr,h2,h3,h4⟩:=run_app_byt w ty base v n xs hown A m c ys hy hm h63 hbase
  refine ⟨v',w',hr,h2,by rw [hR];exact h3,?_⟩
  rcases h4 with h4 | h4
  ·exact Or.inl (by rw [hR];exact h4)
  ·exact Or.inr fun k hk=>by rw [h4] at hk;injection hk with hk;omega
 ·obtain ⟨v',w',hr,h2,h3⟩:=run_app_fullA w ty _ n xs hxs hn A m c ys hy hm h0 h63
  refine ⟨v',w',hr,h2 base hbase,by rw [hR];exact h3,?_⟩
  exact Or.inr fun k hk=>((h2 w.heap.size (Nat.le_refl _)).lt k hk).1
theorem wpList_app_any (w:World) {ops:Array Oper} {rest:List Oper} {o:Oper} {a:Act} {Q:Exit→Act→World→Prop} (hgd:o.guard=none) (s x:Operand)
 (ho:o.op=.call { callee:=.builtin .append,args:=#[s,x],argTypes:=#[48,48] })
 (base:Nat) (v:Value) (n:Nat) (xs:List Int) (R:Option Nat) (hs:a.eval s=v) (happ:App w base v n xs R) (A:Option Addr) (m c:Nat) (ys:List Int) (hx:a.eval x=.slice A m c) (hy:Byt w A ys) (hm:ys.length=m)
 (h0:0<m) (h63:n+m≤1000000) (hbase:base≤w.heap.size)
 (h:∀ v' w',w'.ownsRow base 5 1 v' (n+m) (Bs (xs++ys))→w.grownBy w' R→Near w R v'→wpList Tryz.prog ops Q rest (a.put o.dst v') w'):wpList Tryz.prog ops Q (o :: rest) a w:=by
 refine wpList_plain hgd fun _ hK=>?_
 obtain ⟨v',w',hr,h2,h3,h4⟩:=run_app_any w o.type base v n xs R happ A m c ys hy hm h0 h63 hbase
 unfold Oper.wp execOp
 simp only [ho,resolve,invoke,builtin,Sem.run_bind,Sem.run_pure,Result.andThen_ok,List.map_toArray,List.map_cons,List.map_nil,hs,hx,hr]
 exact hK _ _ (h v' w' h2 h3 h4)
set_option maxRecDepth 100000 in
set_option maxHeartbeats 1600000 in
theorem num_app (w:World) (base:Nat) (v:Value) (m:Nat) (xs:List Int) (R:Option Nat) (n s:Nat) (hown:App w base v m xs R) (hbase:base≤w.heap.size) (hm:m≤900000) (hs:s≤4) (hs0:0<s) (hn:n<4294967296) :
 Calls Tryz.prog 105 #[v,.int .u32 n,.int .i64 s] w fun e w'=>∃ v',e=.returned v'∧w'.ownsRow base 5 1 v' (m+s) (Bs (xs++be n s))∧w.grownBy w' R∧Near w R v':=by
 have HO:=Lib.hid hown
 clear hown
 go_enter Tryz.func105,Tryz.ntmps105
 go_wp2
 refine wp_scope1e (fun a' w'=>∃ (k:Nat) (v1:Value) (ys:List Int) (R1:Option Nat),k≤s∧Hid (App w' base v1 (m+(s-k)) (xs++ys) R1∧(k<s→w'.ownsRow base 5 1 v1 (m+(s-k)) (Bs (xs++ys))∧R1=v1.ownBlock∧Near w R v1)∧(k=s→R1=R)∧ys++be n k=be n s∧w.grownBy w' R)∧∃ u7 u8 u9 u10 u11 u12 u13 u14 u15 u16 u17 u18 u19:Value,a'={ tmps:=#[v1,.int .u32 n,.int .i64 k,undef,undef,undef,.slice none 0 0,u7,u8,u9,u10,u11,u12,u13,u14,u15,u16,u17,u18,u19],defers:=[] })
  (fun a' _=>(intOf (a'.tmps.getD 2 undef)).toNat) rfl ?_ ?_
 ·intro HF
  go_wp2
  go_step3
  rename_i hK
  exact hK _ _ (HF _ _ ⟨s,v,[],R,Nat.le_refl _,⟨by simpa using HO.out,fun h=>absurd h (Nat.lt_irrefl _),fun _=>rfl,rfl,World.grownBy.refl _ _⟩,_,_,_,_,_,_,_,_,_,_,_,_,_,rfl⟩)
 ·rintro a' W ⟨k,v1,ys,R1,hk,HH,u7,u8,u9,u10,u11,u12,u13,u14,u15,u16,u17,u18,u19,rfl⟩
  by_cases hk0:k=0
  ·subst hk0
   go_wp2
   simp only [Exit.jump]
   go_ret
   obtain ⟨_,h1,_,h2,h3⟩:=HH.out
   obtain ⟨h1,_,h4⟩:=h1 hs0
   exact ⟨_,rfl,by rw [← h2];simpa [be] using h1,h3,h4⟩
  ·obtain ⟨j,rfl⟩:∃ j,k=j+1:=⟨k-1,by omega⟩
   have hq:(((j+1:Nat):Int)==0)=false:=by simp;omega
   have hj:j<4:=by omega
   have hsz:base≤W.heap.size:=Nat.le_trans hbase HH.out.2.2.2.2.size
   have hstep:∀ x:Int,x=((n/256 ^ j%256:Nat):Int)→∀ (W':World) (v':Value),W'.ownsRow base 5 1 v' (m+(s-(j+1))+1) (Bs ((xs++ys)++[x]))→W.grownBy W' R1→Near W R1 v'→∀ R2,R2=v'.ownBlock→App W' base v' (m+(s-j)) (xs++(ys++[x])) R2∧(j<s→W'.ownsRow base 5 1 v' (m+(s-j)) (Bs (xs++(ys++[x])))∧R2=v'.ownBlock∧Near w R v')∧(j=s→R2=R)∧(ys++[x])++be n j=be n s∧w.grownBy W' R:=by
    intro x hx W' v' h1 h2 h4 R2 hR2
    have h3:W'.ownsRow base 5 1 v' (m+(s-j)) (Bs (xs++(ys++[x]))):=by
     rw [show m+(s-j)=m+(s-(j+1))+1 by omega,← List.append_assoc];exact h1
    have key:Near w R v'∧w.grownBy W' R:=by
     by_cases hjs:j+1=s
     ·have e:=HH.out.2.2.1 hjs
      subst e
      have hg:=HH.out.2.2.2.2
      exact ⟨h4.imp id fun h k hk=>Nat.le_trans hg.size (h k hk),hg.trans h2⟩
     ·obtain ⟨_,e,hnr⟩:=HH.out.2.1 (by omega)
      subst e
      have hg:=HH.out.2.2.2.2
      exact ⟨hnr.step hg.size h4,grown_step hg hnr h2⟩
    refine ⟨Or.inl ⟨h3,hR2⟩,fun _=>⟨h3,hR2,key.1⟩,fun e=>by omega,?_,key.2⟩
    rw [← HH.out.2.2.2.1,hx,List.append_assoc];rfl
   have HS:=Lib.hid hstep
   clear hstep
   have hsj:((j+1:Nat):Int)-1=j:=by omega
   have HL:Hid (m+(s-(j+1))+1≤1000000):=by unfold Hid;omega
   rcases (show j=0∨j=1∨j=2∨j=3 by omega) with rfl | rfl | rfl | rfl
   all_goals
    go_wp2_with (first
     | (at_builtin
        refine wpList_app_any _ rfl (.tmp 12) (.tmp 18) rfl base v1 (m+(s-_)) (xs++ys) R1 rfl (HH.out.1.alloc _) (some ⟨W.heap.size,0,none⟩) 1 1 [_] rfl (byt_blk (heap_alloc_new _ _) rfl) rfl (by omega) HL.out (by rw [size_alloc'];omega) ?_
        intro v2 w2 h2 hg2 hn2
        have hB2:W.grownBy w2 R1:=(World.grownBy_alloc W _ R1).trans hg2
        have hN2:Near W R1 v2:=hn2.at_alloc
        have H2:=Lib.hid h2
        clear h2 hg2 hn2))
    go_step3
    refine ⟨rfl,⟨_,v2,ys++[_],_,by omega,HS.out _ ?_ _ _ H2.out hB2 hN2 _ rfl,_,_,_,_,_,_,_,_,_,_,_,_,_,rfl⟩,?_⟩
    ·first
      | (rw [Int.natCast_emod,Int.natCast_ediv];rfl)
      | (simp;done)
      | (simp;omega)
    ·simp [intOf]
theorem num_any (w:World) (base:Nat) (v:Value) (m:Nat) (xs:List Int) (n s:Nat) (hown:w.ownsRow base 5 1 v m (Bs xs)) (hbase:base≤w.heap.size) (hm:m≤900000) (hs:s≤4) (hs0:0<s) (hn:n<4294967296) :
 Calls Tryz.prog 105 #[v,.int .u32 n,.int .i64 s] w fun e w'=>∃ v',e=.returned v'∧w'.ownsRow base 5 1 v' (m+s) (Bs (xs++be n s))∧Below base w w'∧w.grownBy w' v.ownBlock∧Near w v.ownBlock v' :=
 (num_app w base v m xs _ n s (Or.inl ⟨hown,rfl⟩) hbase hm hs hs0 hn).mono fun e w' ⟨v',h1,h2,h3,h4⟩=>⟨v',h1,h2,grown_below h3 hbase (fun k hk=>(hown.lt k hk).1),h3,h4⟩
theorem or_byte (a y:Nat) (ha:a<16777216) (hy:y<256):bits .or .u32 ((a:Int)*256) (y:Int)=((a*256+y:Nat):Int):=by
 have h:=u32_or_nat (a*256) y (by omega) (by omega)
 have h2:=Nat.two_pow_add_eq_or_of_lt (i:=8) (b:=y) (by omega) a
 rw [show (2 ^ 8*a:Nat)=a*256 by omega] at h2
 rw [← h2] at h
 rw [← h,Int.natCast_mul];rfl
theorem numof_any (A:Option Addr) (xs:List Int) (n d:Nat) (w:World) (hn:xs.length=n) (hl:n≤4) (hB:AllB xs) (hy:Byt w A xs) :
 Calls Tryz.prog 107 #[.slice A n d] w fun e w'=>e=.returned (.int .u32 (numV xs))∧w=w':=by
 have HY:=Lib.hid hy
 have HN:=Lib.hid hn
 have HB:=Lib.hid hB
 clear hn hB hy
 go_enter Tryz.func107,Tryz.ntmps107
 go_wp2
 go_loop [3,8] (fun z i=>∃ k:Nat,k≤n∧i=.int .i64 k∧z=.int .u32 (numV (xs.take k):Nat)) (fun _ i=>n-(intOf i).toNat)
 case atStart=>exact ⟨0,Nat.zero_le _,rfl,rfl⟩
 case round =>
  obtain ⟨k,hk,rfl,rfl⟩:=hrel
  by_cases hlt:k<n
  ·obtain ⟨x,hx⟩:∃ x,xs[k]?=some x:=⟨_,List.getElem?_eq_getElem (by rw [HN.out];exact hlt)⟩
   obtain ⟨ad,rfl,hc0⟩:=HY.out k x hx
   have hxb:=HB.out x (List.mem_of_getElem? hx)
   obtain ⟨y,rfl⟩:∃ y:Nat,x=(y:Int):=⟨x.toNat,by omega⟩
   have hyb:y<256:=by omega
   have HS:Hid (numV (xs.take (k+1))=numV (xs.take k)*256+y):=by
    unfold Hid;rw [take_snoc' hx,numV_snoc,Int.toNat_natCast]
   have hv:=numV_lt k (xs.take k) (by rw [List.length_take,HN.out];omega) (fun z hz=>HB.out z (List.mem_of_mem_take hz))
   have hv2:256 ^ k≤256 ^ 3:=Nat.pow_le_pow_right (by omega) (by omega)
   have hv3:numV (xs.take k)<16777216:=by omega
   clear hx hxb hv hv2
   generalize numV (xs.take k)=a at *
   have wy:IntKind.u32.wrap (y:Int)=y:=IntWalk.u32_in _ (by omega)
   go_wp2
   go_round
   case rel=>exact ⟨k+1,by omega,by go_num,by rw [HS.out,or_byte a y hv3 hyb]⟩
   case measure=>simp [intOf];omega
  ·have e:xs.take k=xs:=List.take_of_length_le (by rw [HN.out];omega)
   rw [e]
   go_wp2
   go_ret
   exact ⟨rfl,rfl⟩
theorem rnum_any (A:Option Addr) (xs:List Int) (n d:Nat) (w:World) (hn:xs.length=n) (hl:n≤4) (hB:AllB xs) (hy:Byt w A xs) :
 Calls Tryz.prog 88 #[.slice A n d] w fun e w'=>e=.returned (.int .u64 (numV xs))∧w=w':=by
 have HY:=Lib.hid hy
 have HN:=Lib.hid hn
 have HB:=Lib.hid hB
 clear hn hB hy
 go_enter Tryz.func88,Tryz.ntmps88
 go_wp2
 go_loop [3,4] (fun z i=>∃ k:Nat,k≤n∧i=.int .i64 k∧z=.int .u64 (numV (xs.take k):Nat)) (fun _ i=>n-(intOf i).toNat)
 case atStart=>exact ⟨0,Nat.zero_le _,rfl,rfl⟩
 case round =>
  obtain ⟨k,hk,rfl,rfl⟩:=hrel
  by_cases hlt:k<n
  ·obtain ⟨x,hx⟩:∃ x,xs[k]?=some x:=⟨_,List.getElem?_eq_getElem (by rw [HN.out];exact hlt)⟩
   obtain ⟨ad,rfl,hc0⟩:=HY.out k x hx
   have hxb:=HB.out x (List.mem_of_getElem? hx)
   obtain ⟨y,rfl⟩:∃ y:Nat,x=(y:Int):=⟨x.toNat,by omega⟩
   have hyb:y<256:=by omega
   have HS:Hid (numV (xs.take (k+1))=numV (xs.take k)*256+y):=by
    unfold Hid;rw [take_snoc' hx,numV_snoc,Int.toNat_natCast]
   have hv:=numV_lt k (xs.take k) (by rw [List.length_take,HN.out];omega) (fun z hz=>HB.out z (List.mem_of_mem_take hz))
   have hv2:256 ^ k≤256 ^ 3:=Nat.pow_le_pow_right (by omega) (by omega)
   have hv3:numV (xs.take k)<16777216:=by omega
   clear hx hxb hv hv2
   generalize numV (xs.take k)=a at *
   have wy:IntKind.u64.wrap (y:Int)=y:=IntWalk.u64_in _ (by omega)
   have wa:IntKind.u64.wrap ((a:Int)*256)=(a:Int)*256:=IntWalk.u64_in _ (by omega)
   have wb:IntKind.u64.wrap ((a:Int)*256+y)=(a:Int)*256+y:=IntWalk.u64_in _ (by omega)
   go_wp2
   go_round
   case rel=>exact ⟨k+1,by omega,by go_num,by rw [HS.out];go_num⟩
   case measure=>simp [intOf];omega
  ·have e:xs.take k=xs:=List.take_of_length_le (by rw [HN.out];omega)
   rw [e]
   go_wp2
   go_ret
   exact ⟨rfl,rfl⟩
theorem made_u8 (n:Nat):(madeCells (Value.int .u8 0).cells n).toList=Bs (List.replicate n 0):=by
 unfold madeCells Bs
 apply List.ext_getElem?
 intro i
 simp [List.getElem?_replicate,Value.cells]
 by_cases h:i<n <;> simp [h,Nat.mod_one]
set_option maxRecDepth 100000 in
set_option maxHeartbeats 1600000 in
theorem summed_any (A:Option Addr) (xs:List Int) (n d:Nat) (w:World) (hn:xs.length=n) (hl:n≤60) (hB:AllB xs) (hy:Byt w A xs) :
 Calls Tryz.prog 104 #[.slice A n d] w fun e w'=>∃ v,e=.returned v∧w'.ownsRow w.heap.size 5 1 v 64 (Bs (sumd xs))∧Below w.heap.size w w':=by
 obtain ⟨i0,hi,hz0,hz1,hz2⟩:=info_parts info5
 have hmk:=fun w:World=>run_make (P:=Tryz.prog) w 48 5 i0 _ Tryz.underlying48 hi hz0 .i64 .i64 60 64 (by omega) (by omega) (by rw [hz2];omega) (by omega)
 have hM0:(madeCells (Value.int .u8 0).cells (64*i0.size)).toList=Bs (List.replicate 64 0):=by
  rw [hz1,Nat.mul_one];exact made_u8 64
 generalize hM:madeCells (Value.int .u8 0).cells ((64:Int).toNat*i0.size)=M at hmk
 rw [show ((64:Int)).toNat=64 by omega,show ((60:Int)).toNat=60 by omega] at hmk
 have HM:Hid (M.toList=Bs (List.replicate 64 0)):=by unfold Hid;rw [← hM];exact hM0
 have HY:=Lib.hid hy
 have HN:=Lib.hid hn
 have HB:=Lib.hid hB
 have HZ:Hid ((Tryz.prog.info? 5).map (·.size)=some 1):=by unfold Hid;rw [hi];simp [hz1]
 clear hM hM0 hi hz0 hz1 hz2 hy hn hB
 go_enter Tryz.func104,Tryz.ntmps104
 go_upto_region 2 with fail
 have HG0:=Lib.hid (heap_alloc_new w (Obj.cells M 5))
 have HB0:Hid (Below w.heap.size w (w.alloc (Obj.cells M 5))):=(Below.refl _ _).alloc (Nat.le_refl _) _
 clear hmk
 have HSZ:Hid (w.heap.size=w.heap.size):=rfl
 generalize w.alloc (Obj.cells M 5)=W0 at *
 have hml:(Bs (List.replicate 64 0)).length=64:=by rw [Bs_length];simp
 go_upto_region 3 with (first
  | (refine wpList_copy_splice rfl (.tmp 5) (.tmp 6) 48 48 rfl 5 Tryz.underlying48 HZ.out (some ⟨w.heap.size,0,none⟩) A 60 64 n d rfl rfl w.heap.size 0 (Bs (List.replicate 64 0)) 5 (by rw [← HM.out,Array.toArray_toList];exact HG0.out) (Bs xs) (by rw [Bs_length,HN.out];show n=min n 60;omega) ?_ (by rw [Bs_length,HN.out,hml];omega) (Bs_one xs) w.heap.size w HB0.out (Nat.le_refl _) ?_
     ·intro h0
      refine ⟨rfl,?_⟩
      have hx0:0<xs.length:=by rw [Bs_length] at h0;exact h0
      obtain ⟨ad,e,_⟩:=HY.out 0 _ (List.getElem?_eq_getElem hx0)
      subst e
      exact ⟨ad,rfl,byt_cells (HY.out.keep HB0.out)⟩
     intro W1 HG1 hB1))
 have hsp:splice (Bs (List.replicate 64 0)) 0 (Bs xs)=Bs (fillB xs++List.replicate 4 0):=by
  unfold splice fillB
  rw [Bs_length,HN.out,List.take_zero,List.nil_append,Nat.zero_add]
  unfold Bs
  rw [← List.map_drop,← List.map_append,List.drop_replicate,List.append_assoc,List.replicate_append_replicate]
  congr 3
  omega
 have HG2:Hid (W1.heap[w.heap.size]?=some (.cells (Bs (fillB xs++List.replicate 4 0)).toArray 5 (0,0))):=by
  unfold Hid;rw [← hsp];exact HG1.out
 have HF:=Lib.hid (fillB_length (xs:=xs) (by rw [HN.out];exact hl))
 have own1:W1.ownsRow w.heap.size 5 1 (.slice (some ⟨w.heap.size,0,none⟩) 60 64) 60 (Bs (fillB xs)):=by
  refine ⟨by rw [Bs_length,HF.out],Or.inr ⟨w.heap.size,64,_,rfl,Nat.le_refl _,HG2.out,by omega,by simp only [maxLen];omega,?_,?_⟩⟩
  ·simp [Bs_length,HF.out]
  ·rw [Bs_append]
   have:(Bs (fillB xs)).length=60*1:=by rw [Bs_length,HF.out]
   rw [← this];exact List.take_left
 have HO1:=Lib.hid own1
 have hy1:Byt W1 (some ⟨w.heap.size,0,none⟩) (fillB xs):=by
  obtain ⟨A',d',e,_,_,h⟩:=byt_own own1 HF.out
  injection e with e;rw [← e] at h;exact h
 have hfB:=fillB_allB HB.out
 have HSV:=Lib.hid (sumV_lt (fillB xs))
 have HSE:Hid (sumd xs=fillB xs++be (sumV (fillB xs)) 4):=Lib.hid rfl
 clear HG1 HG2 hsp own1 hml HG0 HM
 go_wp2_with fail
 refine (sum_any (some ⟨w.heap.size,0,none⟩) (fillB xs) 60 64 W1 HF.out (by omega) hfB hy1).mono ?_
 rintro e W2 ⟨rfl,rfl⟩
 clear hfB hy1
 generalize sumV (fillB xs)=sv at *
 go_wp2_with fail
 refine (num_any W1 w.heap.size _ 60 (fillB xs) sv 4 HO1.out hB1.size (by omega) (by omega) (by omega) HSV.out).mono ?_
 rintro e W4 ⟨v4,rfl,own4,hb4,_⟩
 go_wp2_with fail
 go_ret
 exact ⟨v4,rfl,by rw [HSE.out];exact own4,hB1.trans hb4⟩
theorem zero_u8 (n:Nat):(Builtin.zeroCells (Value.int .u8 0).cells n).toList=Bs (List.replicate n 0):=by
 unfold Builtin.zeroCells Bs
 apply List.ext_getElem?
 intro i
 simp [List.getElem?_replicate,Value.cells]
 by_cases h:i<n <;> simp [h,Nat.mod_one]
theorem run_app_noughts (w:World) (ty:TypeId) (base:Nat) (v:Value) (n:Nat) (xs:List Int) (hown:w.ownsRow base 5 1 v n (Bs xs)) (m:Nat) (h0:0<n) (hm0:0<m)
 (h63:n+m≤1000000) (hbase:base≤w.heap.size) :
 ∃ v' w',(Builtin.append_ #[48,3] ty #[v,.int .i64 m]).run Tryz.prog w=.ok v' w'∧w'.ownsRow base 5 1 v' (n+m) (Bs (xs++List.replicate m 0))∧w.grownBy w' v.ownBlock:=by
 obtain ⟨i0,hi,hz0,hz1,hz2⟩:=info_parts info5
 have hxl:xs.length=n:=by have:=hown.1;rw [Bs_length] at this;omega
 have hlen:(Bs (xs++List.replicate m 0)).length=(n+m)*1:=by rw [Bs_length];simp;omega
 rcases hown.2 with ⟨_,h⟩ | ⟨g,cap,cur,rfl,hbg,hg,hnc,hcm,hcs,htake⟩
 ·omega
 have hw:IntKind.i64.wrap (m:Int)=m:=by rw [IntKind.wrap_i64];omega
 have hneg:¬ ((m:Int)<0):=by omega
 have h48i:¬ (281474976710656<(m:Int)):=by omega
 have hne:¬ m=0:=by omega
 by_cases hroom:n+m≤cap
 ·have hst:=run_storeCells_at Tryz.prog g n 5 (Builtin.zeroCells (Value.int .u8 0).cells m).toList 0 cur w hg (by rw [zero_u8,Bs_length];simp;omega) (by rw [zero_u8];exact Bs_one _)
  simp only [Nat.add_zero] at hst
  refine ⟨.slice (some ⟨g,0,none⟩) (n+m) cap,w.setRow g (cur.toList.take n++Bs (List.replicate m 0)++cur.toList.drop (n+m)).toArray,?_,⟨hlen,.inr ⟨g,cap,_,rfl,hbg,setRow_heap w g cur _ 5 _ hg,hroom,hcm,?_,?_⟩⟩,⟨rfl,rfl,rfl,by simp,fun k _ hk=>setRow_other w g k _ (fun e=>hk (by simp [Value.ownBlock,e]))⟩⟩
  ·have hz8:=zero_u8 m
   have hzl:(Builtin.zeroCells (Value.int .u8 0).cells m).size=m:=by rw [← Array.length_toList,hz8,Bs_length];simp
   simp [Builtin.append_,run_underlying Tryz.underlying48,run_underlying Tryz.underlying3,sizeOf,typeInfo,zeroValue,hi,hz0,hz1,hz2,asInt,asIntOf,hw,hneg,h48i,hne,hroom,Addr.add_lit,hst]
   rw [hz8,hzl]
  ·simp [Bs_length];omega
  ·have e1:(List.take n cur.toList)=Bs xs:=by rw [Nat.mul_one] at htake;exact htake
   rw [e1,← Bs_append,← hlen]
   exact List.take_left
 ·have hge:=grownCap_ge w (n+m) cap 5
  have hcm2:grownCap w (n+m) cap 5≤maxLen:=grownCap_le_maxLen w (n+m) cap _ (by simp only [maxLen];omega)
  have hfo:=run_firstCells_some (P:=Tryz.prog) w.drew i0.size n ⟨g,0,none⟩ n cap (Bs xs) (by rw [Bs_length,hz1];omega) (by simpa using hown.cells (g:=g) rfl)
  have h63':¬ (9223372036854775807<((n:Int)+(m:Int))):=by omega
  have h48':¬ (281474976710656<Builtin.nextslicecap (n+m) cap):=by have:=nextslicecap_le (show cap<n+m by omega);omega
  refine ⟨.slice (some ⟨w.heap.size,0,none⟩) (n+m) (grownCap w (n+m) cap 5),w.drew.alloc (.cells ((Bs xs).toArray++(Builtin.zeroCells (Value.int .u8 0).cells m)++Builtin.zeroCells (Value.int .u8 0).cells (grownCap w (n+m) cap 5-(n+m))) 5),?_,⟨hlen,.inr ⟨w.heap.size,_,_,rfl,hbase,heap_alloc_new w.drew _,hge,hcm2,?_,?_⟩⟩,⟨rfl,rfl,rfl,by simp,fun k hk _=>heap_alloc_old w.drew _ hk⟩⟩
  ·rw [hz1] at hfo
   simp [Builtin.append_,run_underlying Tryz.underlying48,run_underlying Tryz.underlying3,sizeOf,typeInfo,zeroValue,hi,hz0,hz1,hz2,asInt,asIntOf,hw,hneg,h48i,hne,hroom,h63',h48',Question.forced,hfo,newRow,grownCap]
  ·simp only [Array.size_append,List.size_toArray,size_zeroCells,Bs_length,hxl]
   simp [Value.cells];omega
  ·simp only [Array.toList_append,zero_u8]
   rw [← Bs_append,← hlen]
   exact List.take_left
theorem wpList_app_noughts (w:World) {ops:Array Oper} {rest:List Oper} {o:Oper} {a:Act} {Q:Exit→Act→World→Prop} (hgd:o.guard=none) (s x:Operand)
 (ho:o.op=.call { callee:=.builtin .append,args:=#[s,x],argTypes:=#[48,3] })
 (base:Nat) (v:Value) (n:Nat) (xs:List Int) (hs:a.eval s=v) (hown:w.ownsRow base 5 1 v n (Bs xs)) (m:Nat) (hx:a.eval x=.int .i64 m) (h0:0<n)
 (h63:n+m≤1000000) (hbase:base≤w.heap.size)
 (h:∀ v' w',w'.ownsRow base 5 1 v' (n+m) (Bs (xs++List.replicate m 0))→Below base w w'→wpList Tryz.prog ops Q rest (a.put o.dst v') w'):wpList Tryz.prog ops Q (o :: rest) a w:=by
 by_cases hm:m=0
 ·subst hm
  rcases hown.2 with ⟨_,h'⟩ | ⟨g,cap,cur,rfl,hbg,hg,hnc,hcm,hcs,htake⟩
  ·omega
  exact wpList_app_none w hgd s x ho _ n cap hs hx hnc (h _ _ (by simpa using hown) (Below.refl _ _))
 ·refine wpList_plain hgd fun _ hK=>?_
  obtain ⟨v',w',hr,h2,h3⟩:=run_app_noughts w o.type base v n xs hown m h0 (by omega) h63 hbase
  unfold Oper.wp execOp
  simp only [ho,resolve,invoke,builtin,Sem.run_bind,Sem.run_pure,Result.andThen_ok,List.map_toArray,List.map_cons,List.map_nil,hs,hx,hr]
  exact hK _ _ (h v' w' h2 ((Below.refl _ _).grown h3 hbase (fun k hk=>(hown.lt k hk).1)))
set_option maxRecDepth 100000 in
set_option maxHeartbeats 1600000 in
theorem rfilled_any (A:Option Addr) (xs:List Int) (n c:Nat) (w:World) (hn:xs.length=n) (h0:0<n) (hl:n≤60) (hB:AllB xs) (hy:Byt w A xs) :
 Calls Tryz.prog 82 #[.slice A n c] w fun e w'=>∃ v,e=.returned v∧w'.ownsRow w.heap.size 5 1 v 64 (Bs (sumd xs))∧Below w.heap.size w w':=by
 have HY:=Lib.hid hy
 have HN:=Lib.hid hn
 have HB:=Lib.hid (fillB_allB hB)
 have HF:=Lib.hid (fillB_length (xs:=xs) (by omega))
 have HE:Hid (xs++List.replicate (60-n) 0=fillB xs):=by unfold Hid fillB;rw [hn]
 have HSE:Hid (sumd xs=fillB xs++be (sumV (fillB xs)) 4):=Lib.hid rfl
 have hm:(60:Int)-n=((60-n:Nat):Int):=by omega
 have e60:n+(60-n)=60:=by omega
 have own0:=own_new w w.heap.size 5 0 #[] [] (Nat.le_refl _) rfl (by decide) rfl
 have B0:Below w.heap.size w (w.alloc (Obj.cells #[] 5)):=(Below.refl _ _).alloc (Nat.le_refl _) _
 clear hy hn hB
 go_enter Tryz.func82,Tryz.ntmps82
 go_upto_region 2 with (first
  | (at_builtin
     refine wpList_app_byt _ rfl (.tmp 4) (.tmp 5) rfl w.heap.size _ 0 [] rfl own0 A n c xs rfl (HY.out.alloc _) HN.out (by omega) B0.size ?_
     intro v1 w1 h1 hg1 _
     have B1:Below w.heap.size w w1:=B0.grown hg1 B0.size (fun j hj=>(own0.lt j hj).1)
     have own1:w1.ownsRow w.heap.size 5 1 v1 n (Bs xs):=by rw [Nat.zero_add] at h1;exact h1
     clear h1 hg1 own0 B0)
  | (at_builtin
     refine wpList_app_noughts _ rfl (.tmp 6) (.tmp 9) rfl w.heap.size v1 n xs rfl own1 (60-n) (by rw [← hm];rfl) h0 (by omega) B1.size ?_
     intro v2 w2 h2 hg2
     have B2:Below w.heap.size w w2:=B1.trans hg2
     have own2:w2.ownsRow w.heap.size 5 1 v2 60 (Bs (fillB xs)):=by rw [e60,HE.out] at h2;exact h2
     obtain ⟨A1,d1,rfl,hle1,hd1,hy1⟩:=byt_own own2 HF.out
     rw [HF.out] at own2 hle1 ⊢
     have HY1:=Lib.hid hy1
     have HO2:=Lib.hid own2
     clear h2 hg2 own1 B1 hy1 own2))
 go_wp2_with fail
 refine (rsum_any A1 (fillB xs) 60 d1 w2 HF.out (by omega) HB.out HY1.out).mono ?_
 rintro e w3 ⟨rfl,rfl⟩
 have hsv:=sumV_lt (fillB xs)
 generalize sumV (fillB xs)=sv at *
 have hwn:IntKind.u64.wrap (sv:Int)=sv:=IntWalk.u64_in _ (by omega)
 go_wp2_with fail
 refine (high1_any sv 4 w2 (by omega) (by omega)).mono ?_
 rintro e w3 ⟨v2,rfl,own3,hb3⟩
 obtain ⟨A2,d2,rfl,hle2,hd2,hy2⟩:=byt_own own3 (be_length sv 4)
 rw [be_length] at own3 ⊢
 have HY2:=Lib.hid hy2
 have own1':=ownB HO2.out hb3
 clear hy2
 go_wp2_with (first
  | (at_builtin
     refine wpList_app_byt _ rfl (.tmp 11) (.tmp 15) rfl w.heap.size _ 60 (fillB xs) rfl own1' A2 4 d2 (be sv 4) rfl HY2.out (be_length _ _) (by omega) (keepB B2 hb3).size ?_
     intro v3 w4 h3 hg3 _
     have B3:Below w.heap.size w w4:=(keepB B2 hb3).grown hg3 (keepB B2 hb3).size (fun j hj=>(own1'.lt j hj).1)
     have H3:=Lib.hid h3
     clear h3 hg3))
 go_ret
 exact ⟨v3,rfl,by rw [HSE.out];exact H3.out,B3⟩
def zW:Wr:=⟨0,0,zBs⟩
theorem zW_len:zW.bs.length=56:=zBs_len
theorem infoW:(Tryz.prog.info? 73).map (fun i=>(i.zero,i.size,i.bytes))=some (some (.agg (wrA zW)),58,72):=by kernel_rfl
theorem sizeW:(Tryz.prog.info? 73).map (·.size)=some 58:=by kernel_rfl
theorem run_loadVar_at {P:Program} (w:World) (p:Addr) (ty:TypeId) (cs:List Value) (d:TypeDesc) (hc:∀ j v,cs[j]?=some v→w.cell? (p.add j)=some v)
 (hu:P.underlying ty=some d) (hd:d.isRow=true) (hi:(P.info? ty).map (·.size)=some cs.length) :
 (loadVar ty p).run P w=.ok (.agg cs.toArray) w:=by
 have hl:(loadCells p cs.length).run P w=.ok cs.toArray w:=run_loadCells_list (P:=P) w p cs hc
 cases hq:P.info? ty with
 | none=>simp [hq] at hi
 | some i =>
   have hs:i.size=cs.length:=by simpa [hq] using hi
   have hagg:(isAgg ty).run P w=.ok true w:=by
    unfold isAgg
    rw [Sem.run_bind,run_underlying hu w]
    cases d <;> simp_all
   simp [loadVar,Sem.run_bind,hagg,sizeOf,typeInfo,hq,hs,hl]
theorem loadAt_wr (w:World) (p:Addr) (x:Wr) (h56:x.bs.length=56) (hx:WrAt w p x) :
 (Instr.loadAt 73 (.pointer (some p))).run Tryz.prog w=.ok (.agg (wrA x)) w:=by
 simp only [Instr.loadAt,Instr.sureAddr,Sem.run_bind,Sem.run_pure,Result.andThen_ok]
 rw [run_loadVar_at w p 73 (wrL x) _ hx Tryz.underlying73 rfl (by rw [wrL_length h56];exact sizeW)]
 rfl
theorem wrAt_blk {w:World} {g:Nat} {x:Wr} {t:TypeId} {fr:Nat × Nat} (h:w.heap[g]?=some (.cells (wrA x) t fr)):WrAt w ⟨g,0,none⟩ x:=fun j v hj=>by
 rw [add_at,cell_of_row _ _ _ _ _ _ h,← Array.getElem?_toList,wrA_list];exact hj
theorem WrAt.c0 {w:World} {p:Addr} {x:Wr} (h:WrAt w p x):w.cell? p=some (.int .i64 x.t):=by
 have:=h 0 _ rfl
 rwa [show p.add 0=p by unfold Addr.add;simp] at this
theorem WrAt.c1 {w:World} {p:Addr} {x:Wr} (h:WrAt w p x):w.cell? ⟨p.block,p.off+1,none⟩=some (.int .i64 x.k):=by
 have:=h 1 _ rfl
 rwa [add_sum p 0] at this
theorem WrAt.body {w:World} {p:Addr} {x:Wr} (h:WrAt w p x):Byt w (some ⟨p.block,p.off+2,none⟩) x.bs:=fun i v hi=>by
 refine ⟨_,rfl,?_⟩
 have:=h (i+2) (.int .u8 v) (by unfold wrL blkL;simp;exact Bs_at hi)
 rw [add_sum p (i+1)] at this
 rw [add_off,show p.off+2+i=p.off+(i+1+1) by omega]
 exact this
section
variable {ops:Array Oper} {rest:List Oper} {o:Oper} {a:Act} {w:World} {Q:Exit→Act→World→Prop}
theorem wpList_loadWp (hgd:o.guard=none) (x:Operand) (ho:o.op=.load 73 x) (p:Addr) (hx:a.eval x=.pointer (some p)) (y:Wr) (h56:y.bs.length=56) (hy:WrAt w p y)
 (h:wpList Tryz.prog ops Q rest (a.put o.dst (.agg (wrA y))) w):wpList Tryz.prog ops Q (o :: rest) a w :=
 wpList_plain hgd fun _ hK=>wp_run (by
  unfold execOp
  simp only [ho,hx,Sem.run_bind,loadAt_wr w p y h56 hy,Result.andThen_ok,Sem.run_pure]) (hK _ _ h)
theorem wpList_allocW (hgd:o.guard=none) (ho:o.op=.alloc 73)
 (h:wpList Tryz.prog ops Q rest (a.put o.dst (.pointer (some ⟨w.heap.size,0,none⟩))) (w.alloc (.cells (wrA zW) 73))):wpList Tryz.prog ops Q (o :: rest) a w:=by
 obtain ⟨i0,hi,hz0,hz1,hz2⟩:=info_parts infoW
 exact wpList_plain hgd fun _ hK=>wp_alloc_of 73 ho i0 _ hi hz0 (hK _ _ h)
theorem wpList_loadW (hgd:o.guard=none) (x:Operand) (ho:o.op=.load 73 x) (g:Nat) (hx:a.eval x=.pointer (some ⟨g,0,none⟩)) (y:Wr) (h56:y.bs.length=56) (hg:w.heap[g]?=some (.cells (wrA y) 73 (0,0)))
 (h:wpList Tryz.prog ops Q rest (a.put o.dst (.agg (wrA y))) w):wpList Tryz.prog ops Q (o :: rest) a w :=
 wpList_load_row hgd 73 x ho g hx _ _ _ _ hg Tryz.underlying73 rfl (by rw [wrA_size h56];exact sizeW) h
theorem wpList_storeW (hgd:o.guard=none) (x y:Operand) (ho:o.op=.store 73 x y) (g:Nat) (hx:a.eval x=.pointer (some ⟨g,0,none⟩)) (u v:Wr) (hy:a.eval y=.agg (wrA u)) (h56:u.bs.length=56) (h56':v.bs.length=56) (hg:w.heap[g]?=some (.cells (wrA v) 73 (0,0)))
 (h:wpList Tryz.prog ops Q rest (a.put o.dst undef) (w.setRow g (wrA u))):wpList Tryz.prog ops Q (o :: rest) a w :=
 wpList_store_row hgd 73 x y ho g _ hx hy _ _ hg (by rw [wrA_size h56];exact sizeW) (by rw [wrA_size h56,wrA_size h56']) (wrA_one _) h
end
theorem new_wr (w:World) (x:Wr):((w.alloc (.cells (wrA zW) 73)).setRow w.heap.size (wrA x)).heap[w.heap.size]?=some (.cells (wrA x) 73 (0,0)) :=
 setRow_heap _ _ _ _ _ _ (heap_alloc_new w _)
theorem new_wr_below (w:World) (x:Wr):Below w.heap.size w ((w.alloc (.cells (wrA zW) 73)).setRow w.heap.size (wrA x)) :=
 below_setRow ((Below.refl _ _).alloc (Nat.le_refl _) _) (Nat.le_refl _) _
def seenL (s:List Wr):List Value:=(List.range 200).map fun (j:Nat)=>.bool (decide (∃ x∈s,x.t=(j:Int)))
theorem seenL_length (s:List Wr):(seenL s).length=200:=by unfold seenL;simp
theorem seenL_at (s:List Wr) {m:Nat} (h:m<200):(seenL s)[m]?=some (.bool (decide (∃ x∈s,x.t=(m:Int)))):=by unfold seenL;simp [h]
theorem seenL_nil:seenL []=List.replicate 200 (.bool false):=by
 apply List.ext_getElem?
 intro j
 by_cases hj:j<200
 ·rw [seenL_at _ hj,List.getElem?_replicate,if_pos hj];simp
 ·rw [List.getElem?_eq_none (by rw [seenL_length];omega),List.getElem?_eq_none (by rw [List.length_replicate];omega)]
theorem seenL_set (s:List Wr) {x:Wr} {m:Nat} (hx:x.t=(m:Int)):(seenL s).set m (.bool true)=seenL (s++[x]):=by
 apply List.ext_getElem?
 intro j
 by_cases hj:j<200
 ·rw [seenL_at _ hj,List.getElem?_set,seenL_length]
  by_cases e:m=j
  ·subst e
   rw [if_pos rfl,if_pos hj,decide_eq_true ⟨x,by simp,hx⟩]
  ·rw [if_neg e,seenL_at _ hj]
   congr 2
   rw [decide_eq_decide]
   constructor
   ·rintro ⟨y,h1,h2⟩;exact ⟨y,by simp [h1],h2⟩
   ·rintro ⟨y,h1,h2⟩
    rcases List.mem_append.1 h1 with h1 | h1
    ·exact ⟨y,h1,h2⟩
    ·simp only [List.mem_cons,List.not_mem_nil,or_false] at h1
     subst h1
     omega
 ·rw [List.getElem?_eq_none (by rw [List.length_set,seenL_length];omega),List.getElem?_eq_none (by rw [seenL_length];omega)]
theorem infoS:(Tryz.prog.info? 158).map (fun i=>(i.zero,i.size,i.bytes))=some (some (.agg (seenL []).toArray),200,200):=by rw [seenL_nil];kernel_rfl
theorem wpList_allocS {ops:Array Oper} {rest:List Oper} {o:Oper} {a:Act} {w:World} {Q:Exit→Act→World→Prop} (hgd:o.guard=none) (ho:o.op=.alloc 158)
 (h:wpList Tryz.prog ops Q rest (a.put o.dst (.pointer (some ⟨w.heap.size,0,none⟩))) (w.alloc (.cells (seenL []).toArray 158))):wpList Tryz.prog ops Q (o :: rest) a w:=by
 obtain ⟨i0,hi,hz0,hz1,hz2⟩:=info_parts infoS
 exact wpList_plain hgd fun _ hK=>wp_alloc_of 158 ho i0 _ hi hz0 (hK _ _ h)
structure Part (l:List Wr) (k:Nat):Prop where
 may:∀ x∈l.take k,MayB x.k x.t
 nd:((l.take k).map (·.t)).Nodup
theorem Part.none (l:List Wr):Part l 0:=⟨fun x hx=>by simp at hx,by simp⟩
theorem Part.next {l:List Wr} {k:Nat} {x:Wr} (h:Part l k) (hx:l[k]?=some x) (hm:MayB x.k x.t) (hn:¬ ∃ y∈l.take k,y.t=x.t):Part l (k+1):=by
 refine ⟨fun y hy=>?_,?_⟩
 ·rw [take_snoc' hx] at hy
  rcases List.mem_append.1 hy with h1 | h1
  ·exact h.may y h1
  ·simp only [List.mem_cons,List.not_mem_nil,or_false] at h1;subst h1;exact hm
 ·rw [take_snoc' hx,List.map_append,List.nodup_append]
  refine ⟨h.nd,by simp,fun a ha b hb=>?_⟩
  obtain ⟨y,hy,rfl⟩:=List.mem_map.1 ha
  simp only [List.map_cons,List.map_nil,List.mem_cons,List.not_mem_nil,or_false] at hb
  subst hb
  exact fun e=>hn ⟨y,hy,e⟩
theorem Part.all {l:List Wr} {k:Nat} (h:Part l k) (hk:l.length≤k) (hn:1≤l.length∧l.length≤12):MayL l:=by
 have e:l.take k=l:=List.take_of_length_le hk
 exact ⟨hn,by have:=h.may;rwa [e] at this,by have:=h.nd;rwa [e] at this⟩
theorem not_may_kind {l:List Wr} {k:Nat} {x:Wr} (hx:l[k]?=some x) (hm:¬ MayB x.k x.t):¬ MayL l:=fun h=>hm (h.2.1 x (List.mem_of_getElem? hx))
theorem not_may_seen {l:List Wr} {k:Nat} {x:Wr} (hx:l[k]?=some x) (hn:∃ y∈l.take k,y.t=x.t):¬ MayL l:=fun h=>by
 obtain ⟨y,hy,e⟩:=hn
 have h1:((l.take (k+1)).map (·.t)).Nodup:=h.2.2.sublist ((List.take_sublist _ _).map _)
 rw [take_snoc' hx,List.map_append,List.nodup_append] at h1
 exact h1.2.2 _ (List.mem_map.2 ⟨y,hy,rfl⟩) _ (by simp) e
set_option maxRecDepth 100000 in
set_option maxHeartbeats 3200000 in
theorem may_any (A:Option Addr) (l:List Wr) (n d:Nat) (w:World) (hn:l.length=n) (hl:n≤d) (hd:d≤9223372036854775807) (hok:WrsOk l) (hy:Wrs w A l) :
 Calls Tryz.prog 91 #[.slice A n d] w fun e w'=>e=.returned (.bool (decide (MayL l)))∧Below w.heap.size w w':=by
 have HY:=Lib.hid hy
 have HN:=Lib.hid hn
 have HO:=Lib.hid hok
 clear hn hok hy
 by_cases h1:n<1
 ·have hno:¬ MayL l:=fun h=>by have:=h.1.1;rw [HN.out] at this;omega
  rw [decide_eq_false hno]
  have hd1:decide ((n:Int)<1)=true:=decide_eq_true (by omega)
  clear hno
  go_enter Tryz.func91,Tryz.ntmps91
  go_wp2
  go_ret
  exact ⟨rfl,Below.refl _ _⟩
 have hd1:decide ((n:Int)<1)=false:=decide_eq_false (by omega)
 by_cases h2:12<n
 ·have hno:¬ MayL l:=fun h=>by have:=h.1.2;rw [HN.out] at this;omega
  rw [decide_eq_false hno]
  have hd2:decide (12<(n:Int))=true:=decide_eq_true (by omega)
  clear hno
  go_enter Tryz.func91,Tryz.ntmps91
  go_wp2
  go_ret
  exact ⟨rfl,Below.refl _ _⟩
 have hd2:decide (12<(n:Int))=false:=decide_eq_false (by omega)
 have hbel0:Below w.heap.size w (w.alloc (Obj.cells (seenL []).toArray 158)):=(Below.refl _ _).alloc (Nat.le_refl _) _
 have hblk0:=heap_alloc_new w (Obj.cells (seenL []).toArray 158)
 go_enter Tryz.func91,Tryz.ntmps91
 go_wp2_with (first
  | (refine wpList_allocS rfl rfl ?_))
 generalize w.alloc (Obj.cells (seenL []).toArray 158)=W0 at *
 have HS:Hid (w.heap.size=w.heap.size):=rfl
 go_loopw [16] (fun i wr=>∃ k:Nat,i=.int .i64 k∧k≤n∧wr.heap[w.heap.size]?=some (.cells (seenL (l.take k)).toArray 158 (0,0))∧Part l k∧Below w.heap.size w wr) (fun i _=>n-(intOf i).toNat)
 case atStart=>exact ⟨0,rfl,Nat.zero_le _,hblk0,Part.none l,hbel0⟩
 case round =>
  obtain ⟨k,rfl,hk,hblk,hpart,hbel⟩:=hrel
  have HBK:=Lib.hid hblk
  have HP:=Lib.hid hpart
  clear hblk hpart hblk0 hbel0
  by_cases hlt:k<n
  ·obtain ⟨x,hx⟩:∃ x,l[k]?=some x:=⟨_,List.getElem?_eq_getElem (by rw [HN.out];exact hlt)⟩
   have hxo:=HO.out x (List.mem_of_getElem? hx)
   obtain ⟨ad,rfl,hat⟩:=HY.out.keep hbel k x hx
   have HX:=Lib.hid hx
   have H56:=Lib.hid hxo.len
   have HAT:=Lib.hid hat
   have hxt:=hxo.t
   have hxk:=hxo.k
   clear hx hat hxo
   go_upto_region 7 with (first
    | (refine wpList_loadWp rfl (.tmp 18) rfl (ad.add (k*58)) rfl x H56.out HAT.out ?_)
    | (refine wpList_allocW rfl rfl ?_)
    | (refine wpList_storeW rfl (.tmp 5) (.tmp 19) rfl wr.heap.size rfl x zW rfl H56.out zW_len (heap_alloc_new wr _) ?_))
   have hnew:=new_wr wr x
   have hbn:=new_wr_below wr x
   have hlt2:=room_lt HBK.out
   have hbl2:((wr.alloc (.cells (wrA zW) 73)).setRow wr.heap.size (wrA x)).heap[w.heap.size]?=_:=(hbn.block _ hlt2).trans HBK.out
   have hbel2:=keepB hbel hbn
   generalize (wr.alloc (.cells (wrA zW) 73)).setRow wr.heap.size (wrA x)=W2 at *
   generalize wr.heap.size=g5 at *
   have c0:W2.cell? ⟨g5,0,none⟩=_:=(wrAt_blk hnew).c0
   have c1:W2.cell? ⟨g5,1,none⟩=_:=(wrAt_blk hnew).c1
   have HBK2:=Lib.hid hbl2
   clear hnew hbn hbl2 HBK hbel HAT
   by_cases q1:x.k<0
   ·have hno:¬ MayL l:=not_may_kind HX.out (fun h=>by have:=h.1;omega)
    have e1:decide (x.k<0)=true:=decide_eq_true q1
    have HNO:=Lib.hid hno
    clear hno
    go_wp2
    go_ret
    exact ⟨ret_bool (decide_eq_false HNO.out).symm,hbel2⟩
   have e1:decide (x.k<0)=false:=decide_eq_false q1
   by_cases q2:7<x.k
   ·have hno:¬ MayL l:=not_may_kind HX.out (fun h=>by have:=h.1;omega)
    have e2:decide (7<x.k)=true:=decide_eq_true q2
    have HNO:=Lib.hid hno
    clear hno
    go_wp2
    go_ret
    exact ⟨ret_bool (decide_eq_false HNO.out).symm,hbel2⟩
   have e2:decide (7<x.k)=false:=decide_eq_false q2
   by_cases q3:x.t<0
   ·have hno:¬ MayL l:=not_may_kind HX.out (fun h=>by have:=h.2;omega)
    have e3:decide (x.t<0)=true:=decide_eq_true q3
    have HNO:=Lib.hid hno
    clear hno
    go_wp2
    go_ret
    exact ⟨ret_bool (decide_eq_false HNO.out).symm,hbel2⟩
   have e3:decide (x.t<0)=false:=decide_eq_false q3
   by_cases q4:200≤x.t
   ·have hno:¬ MayL l:=not_may_kind HX.out (fun h=>by have:=h.2;omega)
    have e4:decide (200≤x.t)=true:=decide_eq_true q4
    have HNO:=Lib.hid hno
    clear hno
    go_wp2
    go_ret
    exact ⟨ret_bool (decide_eq_false HNO.out).symm,hbel2⟩
   obtain ⟨m,hm⟩:∃ m:Nat,x.t=(m:Int):=⟨x.t.toNat,by omega⟩
   have HM:=Lib.hid hm
   rw [hm] at c0 e3 q4
   have e4:decide (200≤(m:Int))=false:=decide_eq_false q4
   have hm200:m<200:=by omega
   have cs:W2.cell? ⟨w.heap.size,m,none⟩=some (.bool (decide (∃ y∈l.take k,y.t=(m:Int)))):=by
    rw [blk_cell HBK2.out,List.getElem?_toArray];exact seenL_at _ hm200
   have fs:W2.frozen? ⟨w.heap.size,m,none⟩=false:=blk_free HBK2.out m
   have hmay:MayB x.k x.t:=⟨by omega,by omega⟩
   have HMAY:=Lib.hid hmay
   clear hmay hm q4 q3 hxt
   by_cases q5:∃ y∈l.take k,y.t=(m:Int)
   ·have hno:¬ MayL l:=not_may_seen HX.out (by rw [HM.out];exact q5)
    rw [decide_eq_true q5] at cs
    have HNO:=Lib.hid hno
    clear hno q5
    go_wp2
    go_ret
    exact ⟨ret_bool (decide_eq_false HNO.out).symm,hbel2⟩
   ·have HQ:=Lib.hid q5
    rw [decide_eq_false q5] at cs
    clear q5
    go_wp2
    go_roundw
    case rel =>
     refine ⟨k+1,by go_num,by omega,?_,HP.out.next HX.out HMAY.out (by rw [HM.out];exact HQ.out),hbel2.setCell (Nat.le_refl _) _⟩
     rw [heap_setCell_same' HBK2.out,take_snoc' HX.out,← seenL_set _ HM.out];simp
    case measure=>simp [intOf];omega
  ·have hyes:MayL l:=HP.out.all (by rw [HN.out];omega) (by rw [HN.out];omega)
   have HYES:=Lib.hid hyes
   clear hyes
   go_wp2
   go_ret
   exact ⟨ret_bool (decide_eq_true HYES.out).symm,hbel⟩
theorem told_snoc {l:List Wr} {k:Nat} {x:Wr} {m:Nat} (hx:l[k]?=some x) (hm:x.t=(m:Int)):told (l.take (k+1))=(told (l.take k)++be m 2)++[x.k]:=by
 rw [take_snoc' hx,told_append]
 show _++((be x.t.toNat 2++[x.k])++[])=_
 rw [hm,Int.toNat_natCast,List.append_nil,List.append_assoc]
set_option maxRecDepth 100000 in
set_option maxHeartbeats 3200000 in
theorem head_any (lb:Int) (e s:Nat) (A:Option Addr) (l:List Wr) (n d:Nat) (w:World) (hlb:0≤lb∧lb≤255) (he:e<4294967296) (hs:s<4294967296) (hn:l.length=n) (hl:n≤d) (hd:d≤9223372036854775807) (hok:WrsOk l) (hy:Wrs w A l) (hmay:MayL l) :
 Calls Tryz.prog 92 #[.int .u8 lb,.int .u32 e,.int .u32 s,.slice A n d] w fun en w'=>∃ v,en=.returned v∧w'.ownsRow w.heap.size 5 1 v 64 (Bs (sumd (headR lb e s l)))∧Below w.heap.size w w':=by
 have hn12:n≤12:=by have:=hmay.1.2;omega
 have HY:=Lib.hid hy
 have HN:=Lib.hid hn
 have HO:=Lib.hid hok
 have HMAY:=Lib.hid hmay
 have HHB:=Lib.hid (headR_allB e s hlb hmay)
 have HHL:=Lib.hid (headR_length lb e s l)
 clear hn hok hy hmay
 have hwn:IntKind.u8.wrap (n:Int)=n:=IntWalk.u8_in _ (by omega)
 have own0:=own_new w w.heap.size 5 2 #[.int .u8 72,.int .u8 lb] (Bs [72,lb]) (Nat.le_refl _) rfl (by decide) rfl
 have B0:Below w.heap.size w (w.alloc (Obj.cells #[.int .u8 72,.int .u8 lb] 5)):=(Below.refl _ _).alloc (Nat.le_refl _) _
 go_enter Tryz.func92,Tryz.ntmps92
 go_upto_region 2 with fail
 generalize w.alloc (Obj.cells #[.int .u8 72,.int .u8 lb] 5)=W0 at *
 go_wp2_with fail
 refine (num_any W0 w.heap.size _ 2 [72,lb] e 4 own0 B0.size (by omega) (by omega) (by omega) he).mono ?_
 rintro en w1 ⟨v1,rfl,own1,hb1,_⟩
 have B1:=B0.trans hb1
 clear own0 B0 hb1
 go_wp2_with fail
 refine (num_any w1 w.heap.size v1 6 _ s 4 own1 B1.size (by omega) (by omega) (by omega) hs).mono ?_
 rintro en w2 ⟨v2,rfl,own2,hb2,_⟩
 have B2:=B1.trans hb2
 clear own1 B1 hb2
 go_wp2_with (first
  | (at_builtin
     refine wpList_app_any _ rfl (.tmp 20) (.tmp 24) rfl w.heap.size v2 10 _ _ rfl (Or.inl ⟨own2.alloc _,rfl⟩) (some ⟨w2.heap.size,0,none⟩) 1 1 [(n:Int)] rfl (byt_blk (heap_alloc_new _ _) rfl) rfl (by omega) (by omega) (by rw [size_alloc'];have:=B2.size;omega) ?_
     intro v3 w3 h3 hb3 _
     have B3:Below w.heap.size w w3:=(B2.alloc B2.size _).trans (grown_below hb3 (by rw [size_alloc'];have:=B2.size;omega) (fun k hk=>(own2.lt k hk).1))
     have own3:w3.ownsRow w.heap.size 5 1 v3 11 (Bs (front lb e s n++told (l.take 0))):=by
      rw [show told (l.take 0)=[] from rfl,List.append_nil];exact h3
     clear h3 hb3 own2 B2))
 go_loopw [9,28] (fun v i wr=>∃ k:Nat,i=.int .i64 k∧k≤n∧wr.ownsRow w.heap.size 5 1 v (11+3*k) (Bs (front lb e s n++told (l.take k)))∧Below w.heap.size w wr) (fun _ i _=>n-(intOf i).toNat)
 case atStart=>exact ⟨0,rfl,Nat.zero_le _,own3,B3⟩
 case round =>
  obtain ⟨v,rfl⟩:∃ v,v=u9:=⟨u9,rfl⟩
  obtain ⟨k,rfl,hk,own,hbel⟩:=hrel
  clear own3 B3
  by_cases hlt:k<n
  ·obtain ⟨x,hx⟩:∃ x,l[k]?=some x:=⟨_,List.getElem?_eq_getElem (by rw [HN.out];exact hlt)⟩
   have hxo:=HO.out x (List.mem_of_getElem? hx)
   have hxm:=HMAY.out.2.1 x (List.mem_of_getElem? hx)
   obtain ⟨m,hm⟩:∃ m:Nat,x.t=(m:Int):=⟨x.t.toNat,by have:=hxm.2;omega⟩
   have hm200:m<200:=by have:=hxm.2;omega
   have hk7:=hxm.1
   obtain ⟨ad,rfl,hat⟩:=HY.out.keep hbel k x hx
   have H56:=Lib.hid hxo.len
   have HAT:=Lib.hid hat
   have HT:=Lib.hid (told_snoc hx hm)
   have HM:=Lib.hid hm
   have wm:IntKind.u32.wrap (m:Int)=m:=IntWalk.u32_in _ (by omega)
   have wk:IntKind.u8.wrap x.k=x.k:=IntWalk.u8_in _ (by omega)
   have hnew:=new_wr wr x
   have hbn:=new_wr_below wr x
   clear hx hat hxo hxm
   go_upto_region 8 with (first
    | (refine wpList_loadWp rfl (.tmp 30) rfl (ad.add (k*58)) rfl x H56.out HAT.out ?_)
    | (refine wpList_allocW rfl rfl ?_)
    | (refine wpList_storeW rfl (.tmp 11) (.tmp 31) rfl wr.heap.size rfl x zW rfl H56.out zW_len (heap_alloc_new wr _) ?_))
   have own4:=ownB own hbn
   have HV:=Lib.hid own
   have B4:=keepB hbel hbn
   have c0:((wr.alloc (.cells (wrA zW) 73)).setRow wr.heap.size (wrA x)).cell? ⟨wr.heap.size,0,none⟩=_:=(wrAt_blk hnew).c0
   have c1:((wr.alloc (.cells (wrA zW) 73)).setRow wr.heap.size (wrA x)).cell? ⟨wr.heap.size,1,none⟩=_:=(wrAt_blk hnew).c1
   have hg5:w.heap.size≤wr.heap.size:=hbel.size
   have hlt5:=room_lt hnew
   generalize (wr.alloc (.cells (wrA zW) 73)).setRow wr.heap.size (wrA x)=W4 at *
   have hVlt:v.ownBlock≠some wr.heap.size:=fun h=>Nat.lt_irrefl _ (HV.out.lt _ h).2
   generalize wr.heap.size=g5 at *
   have HNE:=Lib.hid hVlt
   clear hVlt HV
   rw [hm] at c0
   clear hnew hbn own hbel hm
   go_wp2_with fail
   refine (num_any W4 w.heap.size v (11+3*k) _ m 2 own4 B4.size (by omega) (by omega) (by omega) (by omega)).mono ?_
   rintro en w5 ⟨v5,rfl,own5,hb5,hg5',hn5⟩
   have c1':w5.cell? ⟨g5,1,none⟩=_:=(World.cell?_of_block (hg5'.block g5 hlt5 (fun h=>HNE.out h.symm))).trans c1
   have B5:=B4.trans hb5
   clear own4 B4 hb5 hg5' hn5 c0 c1
   go_wp2_with (first
    | (at_builtin
       refine wpList_app_any _ rfl (.tmp 37) (.tmp 42) rfl w.heap.size v5 (11+3*k+2) _ _ rfl (Or.inl ⟨own5.alloc _,rfl⟩) (some ⟨w5.heap.size,0,none⟩) 1 1 [x.k] rfl (byt_blk (heap_alloc_new _ _) rfl) rfl (by omega) (by omega) (by rw [size_alloc'];have:=B5.size;omega) ?_
       intro v6 w6 h6 hb6 _
       have B6:Below w.heap.size w w6:=(B5.alloc B5.size _).trans (grown_below hb6 (by rw [size_alloc'];have:=B5.size;omega) (fun k hk=>(own5.lt k hk).1))
       have H6:w6.ownsRow w.heap.size 5 1 v6 (11+3*(k+1)) (Bs (front lb e s n++told (l.take (k+1)))):=by
        rw [HT.out,show 11+3*(k+1)=11+3*k+2+1 by omega,← List.append_assoc,← List.append_assoc];exact h6
       clear h6 hb6 own5 B5))
   go_roundw
   case rel=>exact ⟨k+1,by go_num,by omega,H6,B6⟩
   case measure=>simp [intOf];omega
  ·obtain rfl:k=n:=by omega
   have e0:l.take k=l:=List.take_of_length_le (by rw [HN.out];omega)
   have eH:headR lb e s l=front lb e s k++told l:=by unfold headR;rw [HN.out]
   rw [e0,← eH] at own
   have HE:=Lib.hid own
   have HL:Hid ((headR lb e s l).length=11+3*k):=by unfold Hid;rw [HHL.out,HN.out]
   obtain ⟨A3,d3,rfl,hle3,hd3,hy3⟩:=byt_own own HL.out
   rw [HL.out] at HE ⊢
   have HY3:=Lib.hid hy3
   clear own e0 eH hy3 hle3
   go_wp2_with fail
   refine (summed_any A3 (headR lb e s l) (11+3*k) d3 wr HL.out (by omega) HHB.out HY3.out).mono ?_
   rintro en w5 ⟨v5,rfl,own5,hb5⟩
   go_wp2_with fail
   go_ret
   exact ⟨v5,rfl,own5.mono hbel.size,keepB hbel hb5⟩
set_option maxRecDepth 100000 in
set_option maxHeartbeats 3200000 in
theorem bearer_any (e s:Nat) (x:Wr) (w:World) (he:e<4294967296) (hs:s<4294967296) (hok:x.Ok) :
 Calls Tryz.prog 93 #[.int .u32 e,.int .u32 s,.agg (wrA x)] w fun en w'=>∃ v,en=.returned v∧w'.ownsRow w.heap.size 5 1 v 64 (Bs (sumd (bearB e s x.bs)))∧Below w.heap.size w w':=by
 have H56:=Lib.hid hok.len
 have HB:=Lib.hid hok.b
 have hblk:=heap_alloc_new w (Obj.cells (wrA x) 73)
 have hby:Byt (w.alloc (Obj.cells (wrA x) 73)) (some ⟨w.heap.size,2,none⟩) x.bs:=(wrAt_blk hblk).body
 have hbel:Below w.heap.size w (w.alloc (Obj.cells (wrA x) 73)):=(Below.refl _ _).alloc (Nat.le_refl _) _
 have HBY:=Lib.hid hby
 have HBB:=Lib.hid (bearB_allB (e:=e) (s:=s) hok.b)
 have HBL:=Lib.hid (bearB_length (e:=e) (s:=s) hok.len)
 clear hblk hby hok
 go_enter Tryz.func93,Tryz.ntmps93
 go_wp2_with fail
 generalize w.alloc (Obj.cells (wrA x) 73)=W0 at *
 refine (num_app W0 w.heap.size _ 56 x.bs none e 2 (Or.inr ⟨rfl,w.heap.size,2,rfl,H56.out,HBY.out⟩) hbel.size (by omega) (by omega) (by omega) he).mono ?_
 rintro en w1 ⟨v1,rfl,own1,hg1,_⟩
 have B1:=hbel.grown hg1 hbel.size (fun k hk=>by cases hk)
 clear hg1 hbel HBY
 go_wp2_with fail
 refine (num_any w1 w.heap.size v1 58 _ s 2 own1 B1.size (by omega) (by omega) (by omega) hs).mono ?_
 rintro en w2 ⟨v2,rfl,own2,hb2,_⟩
 have B2:=B1.trans hb2
 have own2':w2.ownsRow w.heap.size 5 1 v2 60 (Bs (bearB e s x.bs)):=own2
 obtain ⟨A3,d3,rfl,hle3,hd3,hy3⟩:=byt_own own2' HBL.out
 rw [HBL.out]
 have HY3:=Lib.hid hy3
 clear own1 own2 own2' B1 hb2 hy3 hle3
 go_wp2_with fail
 refine (summed_any A3 (bearB e s x.bs) 60 d3 w2 HBL.out (by omega) HBB.out HY3.out).mono ?_
 rintro en w5 ⟨v5,rfl,own5,hb5⟩
 go_wp2_with fail
 go_ret
 exact ⟨v5,rfl,own5.mono B2.size,keepB B2 hb5⟩
theorem infoT:(Tryz.prog.info? 48).map (fun i=>(i.zero,i.size,i.bytes))=some (some (.slice none 0 0),1,24):=by kernel_rfl
def Named (w:World) (base:Nat) (ys:List Value) (ls:List (List Int)):Prop:=ys.length=ls.length∧∀ (i:Nat) (b:List Int),ls[i]?=some b→∃ u,ys[i]?=some u∧w.ownsRow base 5 1 u b.length (Bs b)
theorem own_one {w:World} {base:Nat} {t:TypeId} {sz n:Nat} {v:Value} {xs:List Value} (h:w.ownsRow base t sz v n xs):v.oneCell'=true:=by
 rcases h.2 with ⟨rfl,_⟩ | ⟨g,cap,cur,rfl,_⟩ <;> rfl
theorem Named.one {w:World} {base:Nat} {ys:List Value} {ls:List (List Int)} (h:Named w base ys ls):∀ u∈ys,u.oneCell'=true:=fun u hu=>by
 obtain ⟨i,hi⟩:=List.mem_iff_getElem?.1 hu
 have hlt:=(List.getElem?_eq_some_iff.1 hi).1
 obtain ⟨u',h1,h2⟩:=h.2 i _ (List.getElem?_eq_getElem (by rw [← h.1];exact hlt))
 rw [hi] at h1
 injection h1 with h1
 subst h1
 exact own_one h2
theorem run_app_txs (w:World) (ty:TypeId) (base:Nat) (v:Value) (ls:List (List Int)) (hown:OwnTx w base v ls) (ad:Addr) (m c:Nat) (ys:List Value) (ms:List (List Int)) (hm:ms.length=m) (hys:Named w base ys ms) (hc:∀ j u,ys[j]?=some u→w.cell? (ad.add j)=some u)
 (h63:ls.length+m≤1000000) (hbase:base≤w.heap.size) :
 ∃ v' w',(Builtin.append_ #[52,52] ty #[v,.slice (some ad) m c]).run Tryz.prog w=.ok v' w'∧OwnTx w' base v' (ls++ms)∧w.grownBy w' v.ownBlock∧Near w v.ownBlock v':=by
 obtain ⟨i0,hi,hz0,hz1,hz2⟩:=info_parts infoT
 obtain ⟨xs,h1,h2⟩:=hown
 obtain ⟨v',w',hr,h3,h4,h5,h6⟩:=run_append_own_at (P:=Tryz.prog) w base 52 ty 48 i0 (.slice none 0 0) 1 24 Tryz.underlying52 hi hz0 hz1 hz2 rfl (by decide) v ls.length xs h1 ad m c ys (by rw [hys.1];omega) hc hys.one (by simp only [maxLen];omega) (by omega) hbase
 have kept:∀ {u:Value} {b:List Int},w.ownsRow base 5 1 u b.length (Bs b)→w'.ownsRow base 5 1 u b.length (Bs b):=fun h=>h.kept h4 (own_far types_ne h1 h)
 refine ⟨v',w',hr,⟨xs++ys,by rw [List.length_append,hm];exact h3,fun i b hb=>?_⟩,h4,?_⟩
 ·have hxl:xs.length=ls.length:=by have:=h1.1;omega
  by_cases hlt:i<ls.length
  ·rw [List.getElem?_append_left hlt] at hb
   obtain ⟨u,e,h7⟩:=h2 i b hb
   exact ⟨u,by rw [List.getElem?_append_left (by omega)];exact e,kept h7⟩
  ·rw [List.getElem?_append_right (by omega)] at hb
   obtain ⟨u,e,h7⟩:=hys.2 _ b hb
   exact ⟨u,by rw [List.getElem?_append_right (by omega),hxl];exact e,kept h7⟩
 ·rcases h6 with h6 | h6
  ·exact Or.inl h6
  ·exact Or.inr fun k hk=>by rw [h6] at hk;injection hk with hk;omega
theorem wpList_app_txs (w:World) {ops:Array Oper} {rest:List Oper} {o:Oper} {a:Act} {Q:Exit→Act→World→Prop} (hgd:o.guard=none) (s x:Operand)
 (ho:o.op=.call { callee:=.builtin .append,args:=#[s,x],argTypes:=#[52,52] })
 (base:Nat) (v:Value) (ls:List (List Int)) (hs:a.eval s=v) (hown:OwnTx w base v ls) (ad:Addr) (m c:Nat) (hx:a.eval x=.slice (some ad) m c) (ys:List Value) (ms:List (List Int)) (hm:ms.length=m) (hys:Named w base ys ms) (hc:∀ j u,ys[j]?=some u→w.cell? (ad.add j)=some u)
 (h63:ls.length+m≤1000000) (hbase:base≤w.heap.size)
 (h:∀ v' w',OwnTx w' base v' (ls++ms)→w.grownBy w' v.ownBlock→Near w v.ownBlock v'→wpList Tryz.prog ops Q rest (a.put o.dst v') w'):wpList Tryz.prog ops Q (o :: rest) a w:=by
 refine wpList_plain hgd fun _ hK=>?_
 obtain ⟨v',w',hr,h2,h3,h4⟩:=run_app_txs w o.type base v ls hown ad m c ys ms hm hys hc h63 hbase
 unfold Oper.wp execOp
 simp only [ho,resolve,invoke,builtin,Sem.run_bind,Sem.run_pure,Result.andThen_ok,List.map_toArray,List.map_cons,List.map_nil,hs,hx,hr]
 exact hK _ _ (h v' w' h2 h3 h4)
theorem OwnTx.low {w:World} {base:Nat} {v:Value} {ls:List (List Int)} (h:OwnTx w base v ls):∀ k,v.ownBlock=some k→base≤k:=fun k hk=>by
 obtain ⟨xs,h1,_⟩:=h
 exact (h1.lt k hk).1
theorem OwnTx.alloc {w:World} {base:Nat} {v:Value} {ls:List (List Int)} (h:OwnTx w base v ls) (o:Obj):OwnTx (w.alloc o) base v ls:=by
 obtain ⟨xs,h1,h2⟩:=h
 exact ⟨xs,h1.alloc o,fun i b hi=>let ⟨u,e,h3⟩:=h2 i b hi;⟨u,e,h3.alloc o⟩⟩
theorem named_one {w:World} {base:Nat} {u:Value} {b:List Int} (h:w.ownsRow base 5 1 u b.length (Bs b)):Named w base [u] [b]:=⟨rfl,fun i b' hi=>by
 cases i with
 | zero=>injection hi with hi;subst hi;exact ⟨u,rfl,h⟩
 | succ i=>cases hi⟩
theorem own_room (w:World) (base:Nat) (C:Array Value) (cap:Nat) (hb:base≤w.heap.size) (hm:cap≤maxLen) (hs:C.size=cap):OwnTx (w.alloc (.cells C 48)) base (.slice (some ⟨w.heap.size,0,none⟩) 0 cap) [] :=
 ⟨[],World.ownsRow_made w C cap hb hm (by omega),fun i b hi=>by cases hi⟩
def putX (lb:Int) (e s:Nat) (l:List Wr):List (List Int):=if MayL l then putL lb e s l else []
def putK (lb:Int) (e s:Nat) (l:List Wr) (k:Nat):List (List Int):=sumd (headR lb e s l) :: (l.take k).map fun x=>sumd (bearB e s x.bs)
theorem putK_snoc {lb:Int} {e s:Nat} {l:List Wr} {k:Nat} {x:Wr} (hx:l[k]?=some x):putK lb e s l (k+1)=putK lb e s l k++[sumd (bearB e s x.bs)]:=by
 unfold putK;rw [take_snoc' hx,List.map_append];rfl
theorem putK_length {lb:Int} {e s:Nat} {l:List Wr} {k:Nat} (h:k≤l.length):(putK lb e s l k).length=1+k:=by unfold putK;simp;omega
theorem putK_all {lb:Int} {e s:Nat} {l:List Wr} {k:Nat} (h:l.length≤k):putK lb e s l k=putL lb e s l:=by unfold putK putL;rw [List.take_of_length_le h]
set_option maxRecDepth 100000 in
set_option maxHeartbeats 3200000 in
theorem put_any (lb:Int) (e s:Nat) (A:Option Addr) (l:List Wr) (n d:Nat) (w:World) (hlb:0≤lb∧lb≤255) (he:e<4294967296) (hs:s<4294967296) (hn:l.length=n) (hl:n≤d) (hd:d≤9223372036854775807) (hok:WrsOk l) (hy:Wrs w A l) :
 Calls Tryz.prog 59 #[.int .u8 lb,.int .u32 e,.int .u32 s,.slice A n d] w fun en w'=>∃ v,en=.returned (.tuple #[v,.bool (decide (MayL l))])∧OwnTx w' w.heap.size v (putX lb e s l)∧Below w.heap.size w w':=by
 have HY:=Lib.hid hy
 have HN:=Lib.hid hn
 have HO:=Lib.hid hok
 have HC:=Lib.hid (may_any A l n d w hn hl hd hok hy)
 clear hn hok hy
 by_cases hmay:MayL l
 ·have hn12:n≤12:=by rw [← HN.out];exact hmay.1.2
  have HMAY:=Lib.hid hmay
  have HX:Hid (putX lb e s l=putL lb e s l):=by unfold Hid putX;rw [if_pos hmay]
  obtain ⟨i0,hi,hz0,hz1,hz2⟩:=info_parts infoT
  have hmk:=fun w:World=>run_make (P:=Tryz.prog) w 52 48 i0 _ Tryz.underlying52 hi hz0 .i64 .i64 0 (1+(n:Int)) (by omega) (by omega) (by rw [hz2];omega) (by omega)
  generalize hM:madeCells (Value.slice none 0 0).cells ((1+(n:Int)).toNat*i0.size)=M at hmk
  have HM:Hid (M.size=1+n):=by unfold Hid;rw [← hM,size_madeCells,hz1];omega
  rw [show (1+(n:Int)).toNat=1+n by omega,show ((0:Int)).toNat=0 by omega] at hmk
  rw [decide_eq_true hmay] at HC ⊢
  clear hM hi hz0 hz1 hz2 hmay
  go_enter Tryz.func59,Tryz.ntmps59
  go_wp2_with fail
  refine HC.out.mono ?_
  rintro en w1 ⟨rfl,hb1⟩
  have HY1:=Lib.hid (HY.out.keep hb1)
  clear HC
  go_upto_region 4 with fail
  have own2:=own_room w1 w.heap.size M (1+n) hb1.size (by simp only [maxLen];omega) HM.out
  have B2:Below w.heap.size w (w1.alloc (Obj.cells M 48)):=hb1.alloc hb1.size _
  have HY2:=Lib.hid (HY1.out.keep ((Below.refl w1.heap.size w1).alloc (Nat.le_refl _) (Obj.cells M 48)))
  generalize w1.alloc (Obj.cells M 48)=W2 at *
  clear hmk HY1 hb1
  go_wp2_with fail
  refine (head_any lb e s A l n d W2 hlb he hs HN.out hl hd HO.out HY2.out HMAY.out).mono ?_
  rintro en w3 ⟨u3,rfl,own3,hb3⟩
  have OT3:=own2.keep hb3
  have B3:=keepB B2 hb3
  have own3':=own3.mono B2.size
  clear own2 own3 B2
  have hsl:(sumd (headR lb e s l)).length=64:=sumd_length (by rw [headR_length,HN.out];omega)
  obtain ⟨A3,d3,rfl,_,_,_⟩:=byt_own own3' hsl
  rw [hsl] at own3' ⊢
  go_wp2_with (first
   | (at_builtin
      refine wpList_app_txs _ rfl (.tmp 20) (.tmp 26) rfl w.heap.size _ [] rfl (OT3.alloc _) ⟨w3.heap.size,0,none⟩ 1 1 rfl [_] [sumd (headR lb e s l)] rfl (named_one (by rw [hsl];exact own3'.alloc _)) (cell_one_new _ _ _) (by simp) (by rw [size_alloc'];have:=B3.size;omega) ?_
      intro v4 w4 OT4 hg4 _
      have B4:Below w.heap.size w w4:=(B3.alloc B3.size _).trans (grown_below hg4 (by rw [size_alloc'];have:=B3.size;omega) OT3.low)
      have OT4':OwnTx w4 w.heap.size v4 (putK lb e s l 0):=OT4
      clear OT4 OT3 own3' B3 hg4))
  clear hsl
  go_loopw [10,30] (fun v i wr=>∃ k:Nat,i=.int .i64 k∧k≤n∧OwnTx wr w.heap.size v (putK lb e s l k)∧Below w.heap.size w wr) (fun _ i _=>n-(intOf i).toNat)
  case atStart=>exact ⟨0,rfl,Nat.zero_le _,OT4',B4⟩
  case round =>
   obtain ⟨v,rfl⟩:∃ v,v=u10:=⟨u10,rfl⟩
   obtain ⟨k,rfl,hk,OT,hbel⟩:=hrel
   clear OT4' B4
   by_cases hlt:k<n
   ·obtain ⟨x,hx⟩:∃ x,l[k]?=some x:=⟨_,List.getElem?_eq_getElem (by rw [HN.out];exact hlt)⟩
    have hxo:=HO.out x (List.mem_of_getElem? hx)
    obtain ⟨ad,rfl,hat⟩:=HY.out.keep hbel k x hx
    have H56:=Lib.hid hxo.len
    have HXO:=Lib.hid hxo
    have HAT:=Lib.hid hat
    have HK:=Lib.hid (putK_snoc (lb:=lb) (e:=e) (s:=s) hx)
    have hpl:(putK lb e s l k).length=1+k:=putK_length (by rw [HN.out];omega)
    have hnew:=new_wr wr x
    have hbn:=new_wr_below wr x
    clear hx hat hxo
    go_upto_region 8 with (first
     | (refine wpList_loadWp rfl (.tmp 32) rfl (ad.add (k*58)) rfl x H56.out HAT.out ?_)
     | (refine wpList_allocW rfl rfl ?_)
     | (refine wpList_storeW rfl (.tmp 12) (.tmp 33) rfl wr.heap.size rfl x zW rfl H56.out zW_len (heap_alloc_new wr _) ?_))
    have OT5:=OT.keep hbn
    have B5:=keepB hbel hbn
    have HNW:=Lib.hid hnew
    clear hnew hbn OT hbel
    generalize (wr.alloc (.cells (wrA zW) 73)).setRow wr.heap.size (wrA x)=W5 at *
    generalize wr.heap.size=g5 at *
    go_wp2_with (first
     | (refine wpList_loadW rfl (.tmp 12) rfl g5 rfl x H56.out HNW.out ?_))
    refine (bearer_any e s x W5 he hs HXO.out).mono ?_
    rintro en w6 ⟨u6,rfl,own6,hb6⟩
    have OT6:=OT5.keep hb6
    have B6:=keepB B5 hb6
    have own6':=own6.mono B5.size
    have hsl:(sumd (bearB e s x.bs)).length=64:=sumd_length (by rw [bearB_length H56.out];omega)
    obtain ⟨A6,d6,rfl,_,_,_⟩:=byt_own own6' hsl
    rw [hsl] at own6' ⊢
    clear OT5 B5 own6 hb6
    go_wp2_with (first
     | (at_builtin
        refine wpList_app_txs _ rfl (.tmp 34) (.tmp 39) rfl w.heap.size _ _ rfl (OT6.alloc _) ⟨w6.heap.size,0,none⟩ 1 1 rfl [_] [sumd (bearB e s x.bs)] rfl (named_one (by rw [hsl];exact own6'.alloc _)) (cell_one_new _ _ _) (by rw [hpl];omega) (by rw [size_alloc'];have:=B6.size;omega) ?_
        intro v7 w7 OT7 hg7 _
        have B7:Below w.heap.size w w7:=(B6.alloc B6.size _).trans (grown_below hg7 (by rw [size_alloc'];have:=B6.size;omega) OT6.low)
        have OT7':OwnTx w7 w.heap.size v7 (putK lb e s l (k+1)):=by rw [HK.out];exact OT7
        clear OT7 OT6 own6' B6 hg7))
    go_roundw
    case rel=>exact ⟨k+1,by go_num,by omega,OT7',B7⟩
    case measure=>simp [intOf];omega
   ·obtain rfl:k=n:=by omega
    have HE:=Lib.hid (putK_all (lb:=lb) (e:=e) (s:=s) (l:=l) (k:=k) (by rw [HN.out];omega))
    go_wp2_with fail
    go_ret2
    exact ⟨v,rfl,by rw [HX.out,← HE.out];exact OT,hbel⟩
 ·have HX:Hid (putX lb e s l=[]):=by unfold Hid putX;rw [if_neg hmay]
  rw [decide_eq_false hmay] at HC ⊢
  clear hmay
  go_enter Tryz.func59,Tryz.ntmps59
  go_wp2_with fail
  refine HC.out.mono ?_
  rintro en w1 ⟨rfl,hb1⟩
  go_wp2_with fail
  go_ret2
  exact ⟨.slice none 0 0,rfl,by rw [HX.out];exact OwnTx.nil _ _,hb1⟩
def PresR (base c:Nat) (w w':World):Prop:=∀ v n xs,n≤c→w.ownsRow base 5 1 v n xs→w'.ownsRow base 5 1 v n xs
theorem PresR.refl (base c:Nat) (w:World):PresR base c w w:=fun v n xs _ h=>h
theorem PresR.below {base c:Nat} {w w':World} (h:Below w.heap.size w w'):PresR base c w w':=fun v n xs _ h1=>ownB h1 h
theorem run_app_pres (w:World) (ty:TypeId) (base:Nat) (v:Value) (n:Nat) (xs:List Int) (hown:w.ownsRow base 5 1 v n (Bs xs)) (A:Option Addr) (m c:Nat) (ys:List Int) (hy:Byt w A ys) (hm:ys.length=m)
 (h0:0<m) (h63:n+m≤1000000) (hbase:base≤w.heap.size) :
 ∃ v' w',(Builtin.append_ #[48,48] ty #[v,.slice A m c]).run Tryz.prog w=.ok v' w'∧w'.ownsRow base 5 1 v' (n+m) (Bs (xs++ys))∧w.grownBy w' v.ownBlock∧PresR base n w w':=by
 obtain ⟨i0,hi,hz0,hz1,hz2⟩:=info_parts info5
 have hA:∃ a,A=some a:=by
  cases ys with
  | nil=>simp at hm;omega
  | cons y l=>obtain ⟨a,e,_⟩:=hy 0 y rfl;exact ⟨a,e⟩
 obtain ⟨a,rfl⟩:=hA
 obtain ⟨v',w',hr,h2,h3,h4,h5⟩:=run_append_own_at (P:=Tryz.prog) w base 48 ty 5 i0 (.int .u8 0) 1 1 Tryz.underlying48 hi hz0 hz1 hz2 rfl (by decide) v n _ hown a m c (Bs ys) (by rw [Bs_length];omega) (byt_cells hy) (Bs_one _) (by simp only [maxLen];omega) (by omega) hbase
 refine ⟨v',w',hr,by rw [Bs_append];exact h2,h3,fun v1 n1 xs1 hle h1=>?_⟩
 rcases h1.2 with ⟨rfl,rfl⟩ | ⟨g1,cap1,cur1,rfl,hb1,hg1,hnc1,hcm1,hcs1,ht1⟩
 ·exact ⟨h1.1,Or.inl ⟨rfl,rfl⟩⟩
 by_cases hne:v.ownBlock=some g1
 ·rcases hown.2 with ⟨rfl,_⟩ | ⟨g,cap,cur,rfl,hb,hg,hnc,hcm,hcs,htake⟩
  ·cases hne
  have eg:g=g1:=by simpa [Value.ownBlock] using hne
  subst eg
  rw [hg] at hg1
  injection hg1 with hg1
  injection hg1 with ec _ _
  subst ec
  have ecap:cap1=cap:=by omega
  subst ecap
  by_cases hroom:n+m≤cap1
  ·obtain ⟨w2,hr2,ho2,hg2⟩:=run_append_fits (P:=Tryz.prog) w base 48 ty 5 i0 1 Tryz.underlying48 hi hz1 g n cap1 (Bs xs) hown a m c (Bs ys) (by rw [Bs_length];omega) (byt_cells hy) (Bs_one _) hroom
   rw [hr] at hr2
   injection hr2 with e1 e2
   subst e2
   rcases ho2.2 with ⟨h',_⟩ | ⟨g',cap',cur',h',_,hg',_,_,hcs',ht'⟩
   ·cases h'
   ·injection h' with q1 q2 q3
    injection q1 with q1;injection q1 with q1
    subst q1;subst q3
    refine ⟨h1.1,Or.inr ⟨g,cap1,cur',rfl,hb1,hg',hnc1,hcm1,hcs',?_⟩⟩
    have h8:=congrArg (List.take n1) ht'
    rw [List.take_take,show min n1 ((n+m)*1)=n1*1 by omega] at h8
    rw [h8,List.take_append_of_le_length (by rw [hown.1];omega),← htake,List.take_take,show min n1 (n*1)=n1*1 by omega]
    exact ht1
  ·have hr2:=run_append_grow (P:=Tryz.prog) w 48 ty 5 i0 (.int .u8 0) Tryz.underlying48 hi hz0 ⟨g,0,none⟩ n cap1 (Bs xs) (by rw [hz1];exact hown.1) (hown.cells (g:=g) rfl) a m c (Bs ys) (by rw [Bs_length,hz1];omega) (byt_cells hy) (by omega) (by omega) (by rw [hz2];have:=nextslicecap_le (show cap1<n+m by omega);omega)
   rw [hr] at hr2
   injection hr2 with e1 e2
   subst e2
   refine ⟨h1.1,Or.inr ⟨g,cap1,cur,rfl,hb1,?_,hnc1,hcm1,hcs1,ht1⟩⟩
   exact (Below.heap_alloc w.drew _ g (room_lt hg)).trans hg
 ·exact h1.kept h3 (Or.inr fun e=>hne e.symm)
theorem wp_app_pres (w:World) {o:Oper} {a:Act} {K:Act→World→Prop} {Q:Exit→Act→World→Prop} (s x:Operand)
 (ho:o.op=.call { callee:=.builtin .append,args:=#[s,x],argTypes:=#[48,48] })
 (base:Nat) (v:Value) (n:Nat) (xs:List Int) (hs:a.eval s=v) (hown:w.ownsRow base 5 1 v n (Bs xs)) (A:Option Addr) (m c:Nat) (ys:List Int) (hx:a.eval x=.slice A m c) (hy:Byt w A ys) (hm:ys.length=m)
 (h0:0<m) (h63:n+m≤1000000) (hbase:base≤w.heap.size)
 (h:∀ v' w',w'.ownsRow base 5 1 v' (n+m) (Bs (xs++ys))→Below base w w'→PresR base n w w'→K (a.put o.dst v') w'):o.wp Tryz.prog a w K Q:=by
 obtain ⟨v',w',hr,h2,h3,h4⟩:=run_app_pres w o.type base v n xs hown A m c ys hy hm h0 h63 hbase
 unfold Oper.wp execOp
 simp only [ho,resolve,invoke,builtin,Sem.run_bind,Sem.run_pure,Result.andThen_ok,List.map_toArray,List.map_cons,List.map_nil,hs,hx,hr]
 exact h v' w' h2 (grown_below h3 hbase (fun k hk=>(hown.lt k hk).1)) h4
structure JPR (base:Nat) (w:World) (hv:Value) (c:Nat) (xs:List Int) (W:World):Prop where
 bel:Below base w W
 row:W.ownsRow base 5 1 hv c (Bs xs)
def VPR (base:Nat) (ad:Addr) (n d k m:Nat) (kk:Int) (hv:Value) (c:Nat) (xs:List Int) (i:Nat) (v:Value) (w:World):Prop :=
 match i with
 | 0=>v=hv
 | 1 | 9=>v=.slice (some ad) n d
 | 2 | 10=>v=.int .i64 k
 | 3 | 4 | 11=>v=.pointer (some (ad.add (k*58)))
 | 5=>v=.int .i64 m
 | 6=>v=.int .u64 m
 | 12 | 13=>v=.pointer (some ⟨(ad.add (k*58)).block,(ad.add (k*58)).off+1,none⟩)
 | 14=>v=.int .i64 kk
 | 15=>v=.int .u8 kk
 | 7=>w.ownsRow base 5 1 v 2 (Bs (be m 2))
 | 8=>w.ownsRow base 5 1 v (c+2) (Bs (xs++be m 2))
 | 16=>w.ownsRow base 5 1 v 1 (Bs [kk])
 | 17=>w.ownsRow base 5 1 v (c+2+1) (Bs ((xs++be m 2)++[kk]))
 | _=>True
def SPR (base c i:Nat) (w w':World):Prop:=PresR base (if i=8 then c else if i=17 then c+2 else c+3) w w'
theorem VPR.on {base:Nat} {ad:Addr} {n d k m:Nat} {kk:Int} {hv:Value} {c:Nat} {xs:List Int} {i j:Nat} {v:Value} {w w':World} (hc:2≤c) (hij:i≠j) (h817:¬ (i=8∧j=17)) (h:VPR base ad n d k m kk hv c xs j v w) (hs:SPR base c i w w'):VPR base ad n d k m kk hv c xs j v w':=by
 unfold SPR at hs
 unfold VPR at *
 split <;> try exact h
 ·exact hs _ _ _ (by split <;> (try split) <;> omega) h
 ·exact hs _ _ _ (by rw [if_neg hij];split <;> omega) h
 ·exact hs _ _ _ (by split <;> (try split) <;> omega) h
 ·exact hs _ _ _ (by rw [if_neg (fun e=>h817 ⟨e,rfl⟩),if_neg hij];omega) h
 ·trivial
theorem part_nd {l:List Wr} {k j:Nat} {x:Wr} (hx:l[k]?=some x) (h:∀ i y,i<j→l[i]?=some y→y.t≠x.t) (hj:k≤j):¬ ∃ y∈l.take k,y.t=x.t:=by
 rintro ⟨y,hy,e⟩
 obtain ⟨i,hi⟩:=List.mem_iff_getElem?.1 hy
 rw [List.getElem?_take] at hi
 split at hi
 ·exact h i y (by omega) hi e
 ·cases hi
set_option maxRecDepth 100000 in
set_option maxHeartbeats 3200000 in
theorem rmay_any (A:Option Addr) (l:List Wr) (n d:Nat) (w:World) (hn:l.length=n) (hl:n≤d) (hd:d≤9223372036854775807) (hok:WrsOk l) (hy:Wrs w A l) :
 Calls Tryz.prog 63 #[.slice A n d] w fun e w'=>e=.returned (.bool (decide (MayL l)))∧Below w.heap.size w w':=by
 have HY:=Lib.hid hy
 have HN:=Lib.hid hn
 have HO:=Lib.hid hok
 clear hn hok hy
 go_enter Tryz.func63,Tryz.ntmps63
 go_wp2
 go_loopw [3] (fun i wr=>∃ k:Nat,i=.int .i64 k∧k≤n∧Part l k∧Below w.heap.size w wr) (fun i _=>n-(intOf i).toNat)
 case atStart=>exact ⟨0,rfl,Nat.zero_le _,Part.none l,Below.refl _ _⟩
 case round =>
  obtain ⟨k,rfl,hk,hpart,hbel⟩:=hrel
  have HP:=Lib.hid hpart
  clear hpart
  by_cases hlt:k<n
  ·obtain ⟨x,hx⟩:∃ x,l[k]?=some x:=⟨_,List.getElem?_eq_getElem (by rw [HN.out];exact hlt)⟩
   have hxo:=HO.out x (List.mem_of_getElem? hx)
   obtain ⟨ad,rfl,hat⟩:=HY.out.keep hbel k x hx
   have HX:=Lib.hid hx
   have hxt:=hxo.t
   have hxk:=hxo.k
   have c0:=hat.c0
   have c1:=hat.c1
   clear hx hxo hat
   have hk63:k*58+1<2 ^ 63*100:=by omega
   by_cases q1:x.k<0
   ·have HNO:=Lib.hid (not_may_kind HX.out (fun h=>by have:=h.1;omega))
    have e1:decide (x.k<0)=true:=decide_eq_true q1
    go_wp2
    go_ret
    exact ⟨ret_bool (decide_eq_false HNO.out).symm,hbel⟩
   have e1:decide (x.k<0)=false:=decide_eq_false q1
   by_cases q2:7<x.k
   ·have HNO:=Lib.hid (not_may_kind HX.out (fun h=>by have:=h.1;omega))
    have e2:decide (7<x.k)=true:=decide_eq_true q2
    go_wp2
    go_ret
    exact ⟨ret_bool (decide_eq_false HNO.out).symm,hbel⟩
   have e2:decide (7<x.k)=false:=decide_eq_false q2
   by_cases q3:x.t<0
   ·have HNO:=Lib.hid (not_may_kind HX.out (fun h=>by have:=h.2;omega))
    have e3:decide (x.t<0)=true:=decide_eq_true q3
    go_wp2
    go_ret
    exact ⟨ret_bool (decide_eq_false HNO.out).symm,hbel⟩
   have e3:decide (x.t<0)=false:=decide_eq_false q3
   by_cases q4:200≤x.t
   ·have HNO:=Lib.hid (not_may_kind HX.out (fun h=>by have:=h.2;omega))
    have e4:decide (200≤x.t)=true:=decide_eq_true q4
    go_wp2
    go_ret
    exact ⟨ret_bool (decide_eq_false HNO.out).symm,hbel⟩
   have e4:decide (200≤x.t)=false:=decide_eq_false q4
   have HMAY:Hid (MayB x.k x.t):=⟨by omega,by omega⟩
   clear q3 q4 q1 q2 hk63
   go_wp2
   go_loopw [4] (fun i wq=>∃ j:Nat,i=.int .i64 j∧j≤k∧(∀ i y,i<j→l[i]?=some y→y.t≠x.t)∧Below w.heap.size w wq) (fun i _=>k-(intOf i).toNat)
   case atStart=>exact ⟨0,rfl,Nat.zero_le _,fun i y h=>by omega,hbel⟩
   case round =>
    obtain ⟨j,rfl,hj,hall,hbel2⟩:=hrel
    have HA:=Lib.hid hall
    clear hall
    by_cases hlt2:j<k
    ·obtain ⟨y,hy⟩:∃ y,l[j]?=some y:=⟨_,List.getElem?_eq_getElem (by rw [HN.out];omega)⟩
     obtain ⟨ad',e',haty⟩:=HY.out.keep hbel2 j y hy
     injection e' with e';subst e'
     obtain ⟨ad',e',hatx⟩:=HY.out.keep hbel2 k x HX.out
     injection e' with e';subst e'
     have hyt:=(HO.out y (List.mem_of_getElem? hy)).t
     obtain ⟨w5,rfl⟩:∃ w5,w5=wr:=⟨wr,rfl⟩
     have d0:=fun q=>(show (w5.drewN q).cell? _=_ from hatx.c0)
     have d1:=fun q=>(show (w5.drewN q).cell? _=_ from haty.c0)
     have HYY:=Lib.hid hy
     clear hatx haty hy c0 c1
     have hj1:(j:Int)<n:=by omega
     have hj0:(0:Int)≤j:=by omega
     have hk1:(k:Int)<n:=by omega
     have hjN:j<n:=by omega
     cases heq:(y.t==x.t)
     ·have hne:¬ y.t=x.t:=by simpa using heq
      go_upto_region 9 with fail
      go_quiet (fail)
      have hb5:=keepB hbel2 (bdn (Below.refl w5.heap.size w5) nq)
      clear d0 d1
      generalize w5.drewN nq=w6 at *
      go_wp2
      go_roundw
      case rel =>
       refine ⟨j+1,by go_num,by omega,fun i z hi hz=>?_,hb5⟩
       by_cases e:i=j
       ·subst e;rw [HYY.out] at hz;injection hz with hz;subst hz;exact hne
       ·exact HA.out i z (by omega) hz
      case measure=>simp [intOf];omega
     ·have HNO:=Lib.hid (not_may_seen HX.out ⟨y,List.mem_iff_getElem?.2 ⟨j,by rw [List.getElem?_take,if_pos hlt2];exact HYY.out⟩,by simpa using heq⟩)
      go_upto_region 9 with fail
      go_quiet (fail)
      have hb5:=keepB hbel2 (bdn (Below.refl w5.heap.size w5) nq)
      clear d0 d1
      generalize w5.drewN nq=w6 at *
      go_wp2
      go_ret
      exact ⟨ret_bool (decide_eq_false HNO.out).symm,hb5⟩
    ·obtain rfl:j=k:=by omega
     go_wp2
     go_roundw
     case rel=>exact ⟨j+1,by go_num,by omega,HP.out.next HX.out HMAY.out (part_nd HX.out HA.out (Nat.le_refl _)),hbel2⟩
     case measure=>simp [intOf];omega
  ·obtain rfl:k=n:=by omega
   by_cases h1:1≤k
   ·have d1:decide (1≤(k:Int))=true:=decide_eq_true (by omega)
    by_cases h2:k≤12
    ·have HYES:=Lib.hid (HP.out.all (by rw [HN.out];omega) (by rw [HN.out];omega))
     have d2:decide ((k:Int)≤12)=true:=decide_eq_true (by omega)
     go_wp2
     go_ret
     exact ⟨ret_bool (decide_eq_true HYES.out).symm,hbel⟩
    ·have HNO:Hid (¬ MayL l):=fun h=>by have:=h.1.2;rw [HN.out] at this;omega
     have d2:decide ((k:Int)≤12)=false:=decide_eq_false (by omega)
     go_wp2
     go_ret
     exact ⟨ret_bool (decide_eq_false HNO.out).symm,hbel⟩
   ·have HNO:Hid (¬ MayL l):=fun h=>by have:=h.1.1;rw [HN.out] at this;omega
    have d1:decide (1≤(k:Int))=false:=decide_eq_false (by omega)
    go_wp2
    go_ret
    exact ⟨ret_bool (decide_eq_false HNO.out).symm,hbel⟩
theorem be2_mod (n:Nat):be (n%65536) 2=be n 2:=by
 have h1:n%65536/256%256=n/256%256:=by omega
 have h2:n%65536/1%256=n/1%256:=by omega
 rw [be2_eq,be2_eq,h1,h2]
set_option maxRecDepth 100000 in
set_option maxHeartbeats 6400000 in
theorem rput_any (lb:Int) (e s:Nat) (A:Option Addr) (l:List Wr) (n d:Nat) (w:World) (hlb:0≤lb∧lb≤255) (he:e<4294967296) (hs:s<4294967296) (hn:l.length=n) (hl:n≤d) (hd:d≤9223372036854775807) (hok:WrsOk l) (hy:Wrs w A l) :
 Calls Tryz.prog 64 #[.int .u8 lb,.int .u32 e,.int .u32 s,.slice A n d] w fun en w'=>∃ v,en=.returned (.tuple #[v,.bool (decide (MayL l))])∧OwnTx w' w.heap.size v (putX lb e s l)∧Below w.heap.size w w':=by
 have HY:=Lib.hid hy
 have HN:=Lib.hid hn
 have HO:=Lib.hid hok
 have HC:=Lib.hid (rmay_any A l n d w hn hl hd hok hy)
 clear hn hok hy
 by_cases hmay:MayL l
 ·have hn12:n≤12:=by rw [← HN.out];exact hmay.1.2
  have HMAY:=Lib.hid hmay
  have HX:Hid (putX lb e s l=putL lb e s l):=by unfold Hid putX;rw [if_pos hmay]
  have HHB:=Lib.hid (headR_allB e s hlb hmay)
  have HHL:=Lib.hid (headR_length lb e s l)
  have hwn:IntKind.u8.wrap (n:Int)=n:=IntWalk.u8_in _ (by omega)
  have we:IntKind.u64.wrap (e:Int)=e:=IntWalk.u64_in _ (by omega)
  have ws:IntKind.u64.wrap (s:Int)=s:=IntWalk.u64_in _ (by omega)
  rw [decide_eq_true hmay] at HC ⊢
  clear hmay
  go_enter Tryz.func64,Tryz.ntmps64
  go_wp2_with fail
  refine HC.out.mono ?_
  rintro en w1 ⟨rfl,hb1⟩
  have own2:=own_new w1 w.heap.size 5 2 #[.int .u8 72,.int .u8 lb] (Bs [72,lb]) hb1.size rfl (by decide) rfl
  have B2:Below w.heap.size w (w1.alloc (Obj.cells #[.int .u8 72,.int .u8 lb] 5)):=hb1.alloc hb1.size _
  clear HC
  go_wp2_with fail
  generalize w1.alloc (Obj.cells #[.int .u8 72,.int .u8 lb] 5)=W2 at *
  refine (high1_any e 4 W2 (by omega) (by omega)).mono ?_
  rintro en w3 ⟨v3,rfl,own3,hb3⟩
  obtain ⟨A3,d3,rfl,hle3,hd3,hy3⟩:=byt_own own3 (be_length e 4)
  rw [be_length]
  have own2':=ownB own2 hb3
  have B3:=keepB B2 hb3
  clear own2 own3 hle3
  go_wp2_with (first
   | (at_builtin
      refine wpList_app_byt _ rfl (.tmp 19) (.tmp 22) rfl w.heap.size _ 2 [72,lb] rfl own2' A3 4 d3 (be e 4) rfl hy3 (be_length _ _) (by omega) B3.size ?_
      intro v4 w4 h4 hg4 _
      have B4:Below w.heap.size w w4:=B3.grown hg4 B3.size (fun j hj=>(own2'.lt j hj).1)
      have own4:w4.ownsRow w.heap.size 5 1 v4 6 (Bs ([72,lb]++be e 4)):=h4
      clear h4 hg4 own2' B2 B3 hy3))
  refine (high1_any s 4 w4 (by omega) (by omega)).mono ?_
  rintro en w5 ⟨v5,rfl,own5,hb5⟩
  obtain ⟨A5,d5,rfl,hle5,hd5,hy5⟩:=byt_own own5 (be_length s 4)
  rw [be_length]
  have own4':=ownB own4 hb5
  have B5:=keepB B4 hb5
  clear own4 own5 hle5
  go_wp2_with (first
   | (at_builtin
      refine wpList_app_byt _ rfl (.tmp 23) (.tmp 26) rfl w.heap.size _ 6 _ rfl own4' A5 4 d5 (be s 4) rfl hy5 (be_length _ _) (by omega) B5.size ?_
      intro v6 w6 h6 hg6 _
      have B6:Below w.heap.size w w6:=B5.grown hg6 B5.size (fun j hj=>(own4'.lt j hj).1)
      have own6:w6.ownsRow w.heap.size 5 1 v6 10 (Bs ([72,lb]++be e 4++be s 4)):=h6
      clear h6 hg6 own4' B4 B5 hy5)
   | (at_builtin
      refine wpList_app_byt _ rfl (.tmp 28) (.tmp 32) rfl w.heap.size _ 10 _ rfl (own6.alloc _) (some ⟨w6.heap.size,0,none⟩) 1 1 [(n:Int)] rfl (byt_blk (heap_alloc_new _ _) rfl) rfl (by omega) (by rw [size_alloc'];have:=B6.size;omega) ?_
      intro v7 w7 h7 hg7 _
      have B7:Below w.heap.size w w7:=(B6.alloc B6.size _).grown hg7 (by rw [size_alloc'];have:=B6.size;omega) (fun j hj=>(own6.lt j hj).1)
      have own7:w7.ownsRow w.heap.size 5 1 v7 11 (Bs (front lb e s n++told (l.take 0))):=by
       rw [show told (l.take 0)=[] from rfl,List.append_nil];exact h7
      clear h7 hg7 own6 B6))
  go_loopw [10,11] (fun v i wr=>∃ k:Nat,i=.int .i64 k∧k≤n∧wr.ownsRow w.heap.size 5 1 v (11+3*k) (Bs (front lb e s n++told (l.take k)))∧Below w.heap.size w wr) (fun _ i _=>n-(intOf i).toNat)
  case atStart=>exact ⟨0,rfl,Nat.zero_le _,own7,B7⟩
  case round =>
   obtain ⟨v,rfl⟩:∃ v,v=u10:=⟨u10,rfl⟩
   obtain ⟨k,rfl,hk,own,hbel⟩:=hrel
   clear own7 B7
   by_cases hlt:k<n
   ·obtain ⟨x,hx⟩:∃ x,l[k]?=some x:=⟨_,List.getElem?_eq_getElem (by rw [HN.out];exact hlt)⟩
    have hxm:=HMAY.out.2.1 x (List.mem_of_getElem? hx)
    obtain ⟨m,hm⟩:∃ m:Nat,x.t=(m:Int):=⟨x.t.toNat,by have:=hxm.2;omega⟩
    have hm200:m<200:=by have:=hxm.2;omega
    have hk7:=hxm.1
    obtain ⟨ad,rfl,hat⟩:=HY.out.keep hbel k x hx
    have HT:=Lib.hid (told_snoc hx hm)
    have HC0:Hid (∀ W,Below w.heap.size w W→W.cell? (ad.add (k*58))=some (.int .i64 m)):=fun W hW=>by
     obtain ⟨a',e',h⟩:=HY.out.keep hW k x hx
     injection e' with e';subst e'
     rw [← hm];exact h.c0
    have HC1:Hid (∀ W,Below w.heap.size w W→W.cell? ⟨(ad.add (k*58)).block,(ad.add (k*58)).off+1,none⟩=some (.int .i64 x.k)):=fun W hW=>by
     obtain ⟨a',e',h⟩:=HY.out.keep hW k x hx
     injection e' with e';subst e'
     exact h.c1
    have wm:IntKind.u64.wrap (m:Int)=m:=IntWalk.u64_in _ (by omega)
    have wk:IntKind.u8.wrap x.k=x.k:=IntWalk.u8_in _ (by omega)
    have hkk:(k:Int)<n:=by omega
    clear hx hat hxm hm
    go_upto_region 8 with fail
    have srefl:∀ (i:Nat) (W:World),SPR w.heap.size (11+3*k) i W W:=fun i W=>PresR.refl _ _ _
    have hJ0:JPR w.heap.size w v (11+3*k) (front lb e s n++told (l.take k)) wr.drew:=⟨hbel.drew,own⟩
    refine wp_region_rgk (VPR w.heap.size ad n d k m x.k v (11+3*k) (front lb e s n++told (l.take k))) (fun _ W=>JPR w.heap.size w v (11+3*k) (front lb e s n++told (l.take k)) W) (SPR w.heap.size (11+3*k)) (by kernel_rfl) (by kernel_rfl) (fun i j v' w' w'' hij hind h hg=>h.on (by omega) hij (by
     rintro ⟨rfl,rfl⟩
     exact absurd (show true=false from hind.symm.trans (by kernel_rfl)) (by decide)) hg) hJ0 ?_
    clear hJ0
    simp only [RAll]
    refine ⟨?_,?_,?_,?_,?_,?_,?_,?_,?_,?_,?_,?_,?_,?_,?_,?_,?_,?_,?_⟩
    ·refine RStepK.of rfl fun T W L hag hL hJ hLs hd=>?_
     have e10:T.getD 10 undef=_:=(agree_at hag 10 (by kernel_rfl)).trans rfl
     clear hag hd
     go_simp
     exact ⟨_,rfl,rfl⟩
    ·refine RStepK.of rfl fun T W L hag hL hJ hLs hd=>?_
     have e3:T.getD 3 undef=_:=(agree_at hag 3 (by kernel_rfl)).trans rfl
     clear hag hd
     go_simp
     exact ⟨_,rfl,rfl⟩
    ·refine RStepK.of rfl fun T W L hag hL hJ hLs hd=>?_
     have e11:T.getD 11 undef=_:=(agree_at hag 11 (by kernel_rfl)).trans rfl
     clear hag hd
     go_simp
     exact ⟨_,rfl,rfl⟩
    ·refine RStepK.of rfl fun T W L hag hL hJ hLs hd=>?_
     have d41:T.getD 41 undef=_:=hd ⟨1,.data⟩ (by simp) rfl _ rfl
     have d42:T.getD 42 undef=_:=hd ⟨2,.data⟩ (by simp) rfl _ rfl
     clear hag hd
     go_simp
     exact ⟨_,rfl,rfl⟩
    ·refine RStepK.of rfl fun T W L hag hL hJ hLs hd=>?_
     have d43:T.getD 43 undef=_:=hd ⟨3,.data⟩ (by simp) rfl _ rfl
     clear hag hd
     go_simp
     exact ⟨_,rfl,rfl⟩
    ·refine RStepK.of rfl fun T W L hag hL hJ hLs hd=>?_
     have d44:T.getD 44 undef=_:=hd ⟨4,.data⟩ (by simp) rfl _ rfl
     have fct0:=HC0.out W hJ.bel
     clear hag hd
     go_simp
     exact ⟨_,rfl,rfl⟩
    ·refine RStepK.of rfl fun T W L hag hL hJ hLs hd=>?_
     have d45:T.getD 45 undef=_:=hd ⟨5,.data⟩ (by simp) rfl _ rfl
     clear hag hd
     go_simp
     exact ⟨_,rfl,rfl⟩
    ·refine RStepK.of rfl fun T W L hag hL hJ hLs hd=>?_
     have d46:T.getD 46 undef=_:=hd ⟨6,.data⟩ (by simp) rfl _ rfl
     clear hag hd
     go_simp
     refine (high1_any m 2 W (by omega) (by omega)).mono ?_;rintro en w' ⟨v',rfl,hown,hb⟩
     exact ⟨_,rfl,hown.mono hJ.bel.size,⟨hJ.bel.trans (hb.mono hJ.bel.size),ownB hJ.row hb⟩,PresR.below hb⟩
    ·refine RStepK.of rfl fun T W L hag hL hJ hLs hd=>?_
     have d40:T.getD 40 undef=_:=hd ⟨0,.data⟩ (by simp) rfl _ rfl
     have x47:W.ownsRow w.heap.size 5 1 (T.getD 47 undef) 2 (Bs (be m 2)):=hd ⟨7,.data⟩ (by simp) rfl _ rfl
     obtain ⟨A2,d2,e47,hle2,hd2,hy2⟩:=byt_own x47 (be_length m 2)
     rw [be_length] at e47
     refine wp_app_pres W (.tmp 40) (.tmp 47) rfl w.heap.size v (11+3*k) _ d40 hJ.row A2 2 d2 (be m 2) e47 hy2 (be_length _ _) (by omega) (by omega) hJ.bel.size ?_
     intro v' w' h1 h2 h3
     exact ⟨_,rfl,h1,⟨hJ.bel.trans h2,h3 _ _ _ (Nat.le_refl _) hJ.row⟩,h3⟩
    ·refine RStepK.of rfl fun T W L hag hL hJ hLs hd=>?_
     have e3:T.getD 3 undef=_:=(agree_at hag 3 (by kernel_rfl)).trans rfl
     clear hag hd
     go_simp
     exact ⟨_,rfl,rfl⟩
    ·refine RStepK.of rfl fun T W L hag hL hJ hLs hd=>?_
     have e11:T.getD 11 undef=_:=(agree_at hag 11 (by kernel_rfl)).trans rfl
     clear hag hd
     go_simp
     exact ⟨_,rfl,rfl⟩
    ·refine RStepK.of rfl fun T W L hag hL hJ hLs hd=>?_
     have d49:T.getD 49 undef=_:=hd ⟨9,.data⟩ (by simp) rfl _ rfl
     have d50:T.getD 50 undef=_:=hd ⟨10,.data⟩ (by simp) rfl _ rfl
     clear hag hd
     go_simp
     exact ⟨_,rfl,rfl⟩
    ·refine RStepK.of rfl fun T W L hag hL hJ hLs hd=>?_
     have d51:T.getD 51 undef=_:=hd ⟨11,.data⟩ (by simp) rfl _ rfl
     clear hag hd
     go_simp
     exact ⟨_,rfl,rfl⟩
    ·refine RStepK.of rfl fun T W L hag hL hJ hLs hd=>?_
     have d52:T.getD 52 undef=_:=hd ⟨12,.data⟩ (by simp) rfl _ rfl
     clear hag hd
     go_simp
     exact ⟨_,rfl,rfl⟩
    ·refine RStepK.of rfl fun T W L hag hL hJ hLs hd=>?_
     have d53:T.getD 53 undef=_:=hd ⟨13,.data⟩ (by simp) rfl _ rfl
     have fct0:=HC1.out W hJ.bel
     clear hag hd
     go_simp
     exact ⟨_,rfl,rfl⟩
    ·refine RStepK.of rfl fun T W L hag hL hJ hLs hd=>?_
     have d54:T.getD 54 undef=_:=hd ⟨14,.data⟩ (by simp) rfl _ rfl
     clear hag hd
     go_simp
     exact ⟨_,rfl,rfl⟩
    ·refine RStepK.of rfl fun T W L hag hL hJ hLs hd=>?_
     have d55:T.getD 55 undef=_:=hd ⟨15,.data⟩ (by simp) rfl _ rfl
     rw [Array.getD_eq_getD_getElem?] at d55
     clear hag hd
     go_simp
     exact ⟨_,rfl,own_new W w.heap.size 5 1 #[.int .u8 x.k] (Bs [x.k]) hJ.bel.size rfl (by decide) rfl,⟨hJ.bel.alloc hJ.bel.size _,hJ.row.alloc _⟩,PresR.below ((Below.refl _ _).alloc (Nat.le_refl _) _)⟩
    ·refine RStepK.of rfl fun T W L hag hL hJ hLs hd=>?_
     have x48:W.ownsRow w.heap.size 5 1 (T.getD 48 undef) (11+3*k+2) (Bs ((front lb e s n++told (l.take k))++be m 2)):=hd ⟨8,.data⟩ (by simp) rfl _ rfl
     have x56:W.ownsRow w.heap.size 5 1 (T.getD 56 undef) 1 (Bs [x.k]):=hd ⟨16,.data⟩ (by simp) rfl _ rfl
     obtain ⟨A2,d2,e56,hle2,hd2,hy2⟩:=byt_own x56 rfl
     refine wp_app_pres W (.tmp 48) (.tmp 56) rfl w.heap.size _ _ _ rfl x48 A2 1 d2 [x.k] e56 hy2 rfl (by omega) (by omega) hJ.bel.size ?_
     intro v' w' h1 h2 h3
     exact ⟨_,rfl,h1,⟨hJ.bel.trans h2,h3 _ _ _ (by omega) hJ.row⟩,h3⟩
    ·refine RLastK.of rfl fun T W L hag hLs hL hJ hd=>?_
     have x57:W.ownsRow w.heap.size 5 1 (T.getD 57 undef) (11+3*k+2+1) (Bs (((front lb e s n++told (l.take k))++be m 2)++[x.k])):=hd 17 _ (by simp) rfl
     obtain ⟨f,hf,hT⟩:=agree_fn hag
     have h57:=hf 57
     rw [← h57] at x57
     have HX:=Lib.hid x57
     have HJ:=Lib.hid hJ.bel
     clear hag hd x57 h57 hJ hf
     rw [hT]
     clear hT
     simp only [List.pop_toArray,List.dropLast_cons_cons,List.dropLast_singleton,List.filterMap_cons,List.filterMap_nil,List.foldl_cons,List.foldl_nil,List.setIfInBounds_toArray,List.set_cons_succ,List.set_cons_zero]
     go_wp2_with fail
     go_roundw
     case rel=>exact ⟨k+1,by go_num,by omega,by rw [HT.out,show 11+3*(k+1)=11+3*k+2+1 by omega,← List.append_assoc,← List.append_assoc];exact HX.out,HJ.out⟩
     case measure=>simp [intOf];omega
   ·obtain rfl:k=n:=by omega
    have e0:l.take k=l:=List.take_of_length_le (by rw [HN.out];omega)
    have eH:headR lb e s l=front lb e s k++told l:=by unfold headR;rw [HN.out]
    rw [e0,← eH] at own
    have HL:Hid ((headR lb e s l).length=11+3*k):=by unfold Hid;rw [HHL.out,HN.out]
    obtain ⟨A3,d3,rfl,hle3,hd3,hy3⟩:=byt_own own HL.out
    rw [HL.out]
    have HY3:=Lib.hid hy3
    clear own e0 eH hy3 hle3
    go_wp2_with fail
    refine (rfilled_any A3 (headR lb e s l) (11+3*k) d3 wr HL.out (by omega) (by omega) HHB.out HY3.out).mono ?_
    rintro en w8 ⟨v8,rfl,own8,hb8⟩
    have B8:=keepB hbel hb8
    have own8':=own8.mono hbel.size
    have hsl:(sumd (headR lb e s l)).length=64:=sumd_length (by rw [headR_length,HN.out];omega)
    obtain ⟨A8,d8,rfl,_,_,_⟩:=byt_own own8' hsl
    rw [hsl] at own8' ⊢
    have OT9:OwnTx (w8.alloc (.cells #[.slice A8 64 d8] 48)) w.heap.size (.slice (some ⟨w8.heap.size,0,none⟩) 1 1) (putK lb e s l 0) :=
     ⟨[.slice A8 64 d8],own_new w8 w.heap.size 48 1 #[.slice A8 64 d8] [.slice A8 64 d8] B8.size rfl (by decide) rfl,(named_one (b:=sumd (headR lb e s l)) (by rw [hsl];exact own8'.alloc _)).2⟩
    have B9:Below w.heap.size w (w8.alloc (.cells #[.slice A8 64 d8] 48)):=B8.alloc B8.size _
    clear hsl own8 own8' hb8 hbel HY3
    go_upto_region 11 with fail
    generalize w8.alloc (.cells #[.slice A8 64 d8] 48)=W9 at *
    generalize w8.heap.size=g9 at *
    go_loopw [12,13] (fun v i wr=>∃ k':Nat,i=.int .i64 k'∧k'≤k∧OwnTx wr w.heap.size v (putK lb e s l k')∧Below w.heap.size w wr) (fun _ i _=>k-(intOf i).toNat)
    case atStart=>exact ⟨0,rfl,Nat.zero_le _,OT9,B9⟩
    case round =>
     obtain ⟨v,rfl⟩:∃ v,v=u12:=⟨u12,rfl⟩
     obtain ⟨j,rfl,hj,OT,hbel⟩:=hrel
     obtain ⟨w5,rfl⟩:∃ w5,w5=wr:=⟨wr,rfl⟩
     clear OT9 B9
     by_cases hlt2:j<k
     ·obtain ⟨x,hx⟩:∃ x,l[j]?=some x:=⟨_,List.getElem?_eq_getElem (by rw [HN.out];exact hlt2)⟩
      have hxo:=HO.out x (List.mem_of_getElem? hx)
      obtain ⟨ad,rfl,hat⟩:=HY.out.keep hbel j x hx
      have H56:=Lib.hid hxo.len
      have HBX:=Lib.hid hxo.b
      have HBY:=Lib.hid hat.body
      have HK:=Lib.hid (putK_snoc (lb:=lb) (e:=e) (s:=s) hx)
      have hpl:(putK lb e s l j).length=1+j:=putK_length (by rw [HN.out];omega)
      have c1:=hat.c1
      have hjk:(j:Int)<k:=by omega
      have own0:=own_new w5 w5.heap.size 5 0 #[] [] (Nat.le_refl _) rfl (by decide) rfl
      have B0:Below w5.heap.size w5 (w5.alloc (Obj.cells #[] 5)):=(Below.refl _ _).alloc (Nat.le_refl _) _
      obtain ⟨e2,hme,hE2⟩:∃ e2:Nat,(e:Int)%65536=e2∧Hid (e2=e%65536):=⟨e%65536,by omega,rfl⟩
      obtain ⟨s2,hms,hS2⟩:∃ s2:Nat,(s:Int)%65536=s2∧Hid (s2=s%65536):=⟨s%65536,by omega,rfl⟩
      have he2:e2<65536:=by rw [hE2.out];omega
      have hs2:s2<65536:=by rw [hS2.out];omega
      clear hx hat hxo
      go_upto_region 14 with (first
       | (at_builtin
          refine wpList_app_byt _ rfl (.tmp 67) (.tmp 73) rfl w5.heap.size _ 0 [] rfl own0 (some ⟨(ad.add (j*58)).block,(ad.add (j*58)).off+2,none⟩) 56 56 x.bs rfl (HBY.out.alloc _) H56.out (by omega) B0.size ?_
          intro v1 w1' h1 hg1 _
          have B1:Below w5.heap.size w5 w1':=B0.grown hg1 B0.size (fun j hj=>(own0.lt j hj).1)
          have own1:w1'.ownsRow w5.heap.size 5 1 v1 56 (Bs x.bs):=h1
          clear h1 hg1 own0 B0))
      go_wp2_with fail
      refine (high1_any e2 2 w1' (by omega) (by omega)).mono ?_
      rintro en w2' ⟨v2,rfl,own2,hb2⟩
      obtain ⟨A2,d2,rfl,hle2,hd2,hy2⟩:=byt_own own2 (be_length e2 2)
      rw [be_length]
      have own1':=ownB own1 hb2
      have B2:=keepB B1 hb2
      clear own1 own2 B1 hle2
      go_wp2_with (first
       | (at_builtin
          refine wpList_app_byt _ rfl (.tmp 76) (.tmp 80) rfl w5.heap.size _ 56 x.bs rfl own1' A2 2 d2 (be e2 2) rfl hy2 (be_length _ _) (by omega) B2.size ?_
          intro v3 w3' h3 hg3 _
          have B3:Below w5.heap.size w5 w3':=B2.grown hg3 B2.size (fun j hj=>(own1'.lt j hj).1)
          have own3:w3'.ownsRow w5.heap.size 5 1 v3 58 (Bs (x.bs++be e2 2)):=h3
          clear h3 hg3 own1' B2 hy2))
      refine (high1_any s2 2 w3' (by omega) (by omega)).mono ?_
      rintro en w4' ⟨v4,rfl,own4,hb4⟩
      obtain ⟨A4,d4,rfl,hle4,hd4,hy4⟩:=byt_own own4 (be_length s2 2)
      rw [be_length]
      have own3':=ownB own3 hb4
      have B4:=keepB B3 hb4
      clear own3 own4 B3 hle4
      go_wp2_with (first
       | (at_builtin
          refine wpList_app_byt _ rfl (.tmp 81) (.tmp 85) rfl w5.heap.size _ 58 _ rfl own3' A4 2 d4 (be s2 2) rfl hy4 (be_length _ _) (by omega) B4.size ?_
          intro v6 w6' h6 hg6 _
          have B6:Below w5.heap.size w5 w6':=B4.grown hg6 B4.size (fun j hj=>(own3'.lt j hj).1)
          have own6:w6'.ownsRow w5.heap.size 5 1 v6 60 (Bs (bearB e s x.bs)):=by
           unfold bearB;rw [← be2_mod e,← be2_mod s,← hE2.out,← hS2.out];exact h6
          clear h6 hg6 own3' B4 hy4))
      have hbl:=bearB_length (e:=e) (s:=s) H56.out
      obtain ⟨A6,d6,rfl,hle6,hd6,hy6⟩:=byt_own own6 hbl
      rw [hbl]
      refine (rfilled_any A6 (bearB e s x.bs) 60 d6 w6' hbl (by omega) (by omega) (bearB_allB HBX.out) hy6).mono ?_
      rintro en w7' ⟨v7',rfl,own7',hb7⟩
      have B7':=keepB B6 hb7
      have own7'':=own7'.mono (Nat.le_trans hbel.size B6.size)
      have hsl:(sumd (bearB e s x.bs)).length=64:=sumd_length (by rw [hbl];omega)
      obtain ⟨A7,d7,rfl,_,_,_⟩:=byt_own own7'' hsl
      rw [hsl] at own7'' ⊢
      have OT7:=OT.keep B7'
      have B8':=keepB hbel B7'
      clear own6 B6 hy6 own7' hb7 B7' OT hbel hle6
      go_wp2_with (first
       | (at_builtin
          refine wpList_app_txs _ rfl (.tmp 75) (.tmp 88) rfl w.heap.size _ _ rfl (OT7.alloc _) ⟨w7'.heap.size,0,none⟩ 1 1 rfl [_] [sumd (bearB e s x.bs)] rfl (named_one (by rw [hsl];exact own7''.alloc _)) (cell_one_new _ _ _) (by rw [hpl];omega) (by rw [size_alloc'];have:=B8'.size;omega) ?_
          intro v9 w9' OT9 hg9 _
          have B9:Below w.heap.size w w9':=(B8'.alloc B8'.size _).trans (grown_below hg9 (by rw [size_alloc'];have:=B8'.size;omega) OT7.low)
          have OT9':OwnTx w9' w.heap.size v9 (putK lb e s l (j+1)):=by rw [HK.out];exact OT9
          clear OT9 OT7 own7'' B8' hg9))
      go_roundw
      case rel=>exact ⟨j+1,by go_num,by omega,OT9',B9⟩
      case measure=>simp [intOf];omega
     ·obtain rfl:j=k:=by omega
      have HE:=Lib.hid (putK_all (lb:=lb) (e:=e) (s:=s) (l:=l) (k:=j) (by rw [HN.out];omega))
      go_wp2_with fail
      go_ret2
      exact ⟨v,rfl,by rw [HX.out,← HE.out];exact OT,hbel⟩
 ·have HX:Hid (putX lb e s l=[]):=by unfold Hid putX;rw [if_neg hmay]
  rw [decide_eq_false hmay] at HC ⊢
  clear hmay
  go_enter Tryz.func64,Tryz.ntmps64
  go_wp2_with fail
  refine HC.out.mono ?_
  rintro en w1 ⟨rfl,hb1⟩
  go_wp2_with fail
  go_ret2
  exact ⟨.slice none 0 0,rfl,by rw [HX.out];exact OwnTx.nil _ _,hb1⟩
theorem builtW0 (x:Int):Tryz.prog.built 73 [(0,.int .i64 x)]=some (wrA ⟨x,0,zBs⟩):=by kernel_rfl
theorem wpList_buildW0 {ops:Array Oper} {rest:List Oper} {o:Oper} {a:Act} {w:World} {Q:Exit→Act→World→Prop} (hgd:o.guard=none) (x:Operand) (k:Int) (ho:o.op=.build 73 #[(0,x)]) (hx:a.eval x=.int .i64 k)
 (h:wpList Tryz.prog ops Q rest (a.put o.dst (.agg (wrA ⟨k,0,zBs⟩))) w):wpList Tryz.prog ops Q (o :: rest) a w :=
 wpList_plain hgd fun _ hK=>by
  unfold Oper.wp execOp
  have hb:=run_build (P:=Tryz.prog) w 73 #[(0,.int .i64 k)] _ (builtW0 k)
  simp only [ho,List.map_toArray,List.map_cons,List.map_nil,hx,Sem.run_bind,hb,Result.andThen_ok]
  exact hK _ _ h
theorem wrA_kind (t k k':Int) (bs:List Int):(wrA ⟨t,k,bs⟩).setIfInBounds 1 (.int .i64 k')=wrA ⟨t,k',bs⟩:=by unfold wrA wrL blkL;simp
theorem splice_pad (t k:Int) (b:List Int):splice (wrL ⟨t,k,zBs⟩) 2 (Bs (b.take 56))=wrL ⟨t,k,padB b⟩:=by
 unfold splice wrL blkL padB
 rw [Bs_length,List.length_take]
 have e:(Bs zBs).drop (min 56 b.length)=Bs (List.replicate (56-b.length) 0):=by
  unfold Bs zBs;rw [← List.map_drop,List.drop_replicate];congr 2;omega
 have e2:(Value.int .i64 t :: Value.int .i64 k :: Bs zBs).drop (2+min 56 b.length)=(Bs zBs).drop (min 56 b.length):=by
  rw [show 2+min 56 b.length=min 56 b.length+1+1 by omega];rfl
 rw [e2,e]
 unfold Bs
 rw [List.map_append]
 rfl
set_option maxRecDepth 100000 in
set_option maxHeartbeats 1600000 in
theorem writeof_any (A B:Option Addr) (xs b:List Int) (n c m d:Nat) (y:Int) (w:World) (hn:xs.length=n) (h3:3≤n) (hnc:n≤c) (hc:c≤9223372036854775807) (hm:b.length=m) (hX:AllB xs) (hy2:xs[2]?=some y) (bx:Byt w A xs) (bb:Byt w B b) :
 Calls Tryz.prog 115 #[.slice A n c,.slice B m d] w fun e w'=>e=.returned (.agg (wrA ⟨numV (xs.take 2),y,padB b⟩))∧Below w.heap.size w w':=by
 have HX:=Lib.hid bx
 have HB:=Lib.hid bb
 have HN:=Lib.hid hn
 have HM:=Lib.hid hm
 have HXB:=Lib.hid hX
 have hyb:=hX y (List.mem_of_getElem? hy2)
 have HY2:=Lib.hid hy2
 have hp:Byt w A (xs.take 2):=bx.take 2
 have hv:=numV_lt 2 (xs.take 2) (by rw [List.length_take];omega) (fun x hx=>hX x (List.mem_of_mem_take hx))
 clear bx bb hn hm hX hy2
 obtain ⟨ad,rfl,hc2⟩:=HX.out 2 y HY2.out
 have HZ:Hid ((Tryz.prog.info? 5).map (·.size)=some 1):=by
  obtain ⟨i0,hi,hz0,hz1,hz2⟩:=info_parts info5
  unfold Hid;rw [hi];simp [hz1]
 have hm0:=heap_alloc_new w (Obj.cells (wrA zW) 73)
 have hbel0:Below w.heap.size w (w.alloc (Obj.cells (wrA zW) 73)):=(Below.refl _ _).alloc (Nat.le_refl _) _
 go_enter Tryz.func115,Tryz.ntmps115
 go_upto_region 1 with (first
  | (refine wpList_allocW rfl rfl ?_))
 have HM0:=Lib.hid hm0
 have HP1:=Lib.hid (hp.keep hbel0)
 have hszW:=size_alloc' w (Obj.cells (wrA zW) 73)
 generalize w.alloc (Obj.cells (wrA zW) 73)=W1 at *
 have HZW1:Hid (W1.heap.size=w.heap.size+1):=hszW
 clear hm0 hp hszW
 go_wp2_with fail
 refine (numof_any (some ad) (xs.take 2) 2 c W1 (by rw [List.length_take,HN.out];omega) (by omega) (fun x hx=>HXB.out x (List.mem_of_mem_take hx)) HP1.out).mono ?_
 rintro e w2 ⟨rfl,rfl⟩
 generalize hq:numV (xs.take 2)=v at *
 have HQ:=Lib.hid hq
 clear hq
 have wv:IntKind.i64.wrap (v:Int)=v:=IntWalk.i64_in _ (by omega)
 have HM2:=Lib.hid (heap_alloc_new W1 (Obj.cells (wrA zW) 73))
 go_upto_region 2 with (first
  | (refine wpList_buildW0 rfl (.tmp 9) (v:Int) rfl rfl ?_)
  | (refine wpList_allocW rfl rfl ?_)
  | (refine wpList_storeW rfl (.tmp 5) (.tmp 10) rfl W1.heap.size rfl ⟨(v:Int),0,zBs⟩ zW rfl zBs_len zW_len HM2.out ?_))
 have hnew:=new_wr W1 ⟨(v:Int),0,zBs⟩
 have hbn:=new_wr_below W1 ⟨(v:Int),0,zBs⟩
 have HM3:=Lib.hid (kb hbn HM0.out)
 have HBL3:=Lib.hid (keepB hbel0 hbn)
 clear HM2 HM0 hbel0 hbn
 generalize (W1.alloc (.cells (wrA zW) 73)).setRow W1.heap.size (wrA ⟨(v:Int),0,zBs⟩)=W3 at *
 have hg5:w.heap.size<W1.heap.size:=by rw [HZW1.out];omega
 clear HZW1
 generalize W1.heap.size=g5 at *
 have c1:W3.cell? ⟨g5,1,none⟩=some (.int .i64 0):=(wrAt_blk hnew).c1
 have f1:W3.frozen? ⟨g5,1,none⟩=false:=blk_free hnew 1
 have cc2:W3.cell? ⟨ad.block,ad.off+2,none⟩=some (.int .u8 y):=by
  have:=keepC HBL3.out hc2
  rwa [show (2:Nat)=1+1 from rfl,add_sum ad 1] at this
 have HNW:=Lib.hid hnew
 have hn2:(2:Int)<n:=by omega
 clear hnew hc2
 go_upto_region 3 with fail
 have HNW4:Hid ((W3.setCell ⟨g5,1,none⟩ (.int .i64 y)).heap[g5]?=some (.cells (wrA ⟨(v:Int),y,zBs⟩) 73 (0,0))):=by
  unfold Hid;rw [heap_setCell_same' HNW.out,wrA_kind]
 have HM4:Hid ((W3.setCell ⟨g5,1,none⟩ (.int .i64 y)).heap[w.heap.size]?=some (.cells (wrA zW) 73 (0,0))):=by
  unfold Hid;rw [heap_setCell_other _ _ _ _ (by show w.heap.size≠g5;omega)];exact HM3.out
 have HBL4:Hid (Below w.heap.size w (W3.setCell ⟨g5,1,none⟩ (.int .i64 y))):=HBL3.out.setCell (by show w.heap.size≤g5;omega) _
 clear HNW HM3 HBL3 c1 f1 cc2
 generalize W3.setCell ⟨g5,1,none⟩ (.int .i64 y)=W4 at *
 have hwl:(wrL ⟨(v:Int),y,zBs⟩).length=58:=wrL_length zBs_len
 have hbl:(Bs (b.take 56)).length=min m 56:=by rw [Bs_length,List.length_take,HM.out,Nat.min_comm]
 go_upto_region 4 with (first
  | (refine wpList_copy_splice rfl (.tmp 19) (.tmp 20) 48 48 rfl 5 Tryz.underlying48 HZ.out (some ⟨g5,2,none⟩) B 56 56 m d rfl rfl g5 2 (wrL ⟨(v:Int),y,zBs⟩) 73 HNW4.out (Bs (b.take 56)) hbl ?_ (by rw [hbl,hwl];omega) (Bs_one _) (w.heap.size+1) W4 (Below.refl _ _) (by omega) ?_
     ·intro h0
      refine ⟨rfl,?_⟩
      have hx0:0<b.length:=by rw [hbl] at h0;rw [HM.out];omega
      obtain ⟨ad',e,_⟩:=HB.out 0 _ (List.getElem?_eq_getElem hx0)
      subst e
      exact ⟨ad',rfl,byt_cells ((HB.out.keep HBL4.out).take 56)⟩
     intro W5 HG5 hB5))
 have HNW5:Hid (W5.heap[g5]?=some (.cells (wrA ⟨(v:Int),y,padB b⟩) 73 (0,0))):=by
  unfold Hid wrA;rw [← splice_pad];exact HG5.out
 have HM5:Hid (W5.heap[w.heap.size]?=some (.cells (wrA zW) 73 (0,0))):=by
  unfold Hid;rw [hB5.block _ (by omega)];exact HM4.out
 have HBL5:Hid (Below w.heap.size w W5):=HBL4.out.trans (hB5.mono (by omega))
 clear HG5 hB5 HNW4 HM4 HBL4 hwl hbl
 have hpl:=padB_length b
 go_wp2_with (first
  | (refine wpList_loadW rfl (.tmp 5) rfl g5 rfl ⟨(v:Int),y,padB b⟩ hpl HNW5.out ?_)
  | (refine wpList_storeW rfl (.tmp 4) (.tmp 22) rfl w.heap.size rfl ⟨(v:Int),y,padB b⟩ zW rfl hpl zW_len HM5.out ?_))
 refine bodyPost_ret (results_cell_row rfl _ _ w.heap.size _ _ _ _ rfl (setRow_heap _ _ _ _ _ _ HM5.out) Tryz.underlying73 rfl (by rw [wrA_size hpl];exact sizeW)) rfl ?_
 exact ⟨by rw [HQ.out],below_setRow HBL5.out (Nat.le_refl _) _⟩
set_option maxRecDepth 100000 in
set_option maxHeartbeats 1600000 in
theorem eqfunc_any (A B:Option Addr) (ls ms:List (List Int)) (n m c d:Nat) (w:World) (hn:ls.length=n) (hm:ms.length=m) (hnc:n≤9223372036854775807) (hA:TxOk ls) (hB:TxOk ms) (hx:Tx w A ls) (hy:Tx w B ms) :
 Calls Tryz.prog 110 #[.slice A n c,.slice B m d,.func (.func 108) #[] #[]] w fun e w'=>e=.returned (.bool (decide (ls=ms)))∧w=w':=by
 have HX:=Lib.hid hx
 have HY:=Lib.hid hy
 have HN:=Lib.hid hn
 have HM:=Lib.hid hm
 have HA:=Lib.hid hA
 have HB:=Lib.hid hB
 clear hn hm hA hB hx hy
 go_enter Tryz.func110,Tryz.ntmps110
 by_cases hl:n=m
 ·subst hl
  go_wp2
  go_loop [17] (fun i=>∃ k:Nat,i=.int .i64 k∧k≤n∧ls.take k=ms.take k) (fun i=>n-(intOf i).toNat)
  case atStart=>exact ⟨0,rfl,Nat.zero_le _,rfl⟩
  case round =>
   obtain ⟨k,rfl,hk,hpre⟩:=hrel
   have HP:=Lib.hid hpre
   clear hpre
   by_cases hlt:k<n
   ·obtain ⟨x,hx⟩:∃ x,ls[k]?=some x:=⟨_,List.getElem?_eq_getElem (by rw [HN.out];exact hlt)⟩
    obtain ⟨y,hy⟩:∃ y,ms[k]?=some y:=⟨_,List.getElem?_eq_getElem (by rw [HM.out];exact hlt)⟩
    obtain ⟨a,B1,d1,rfl,hc1,_,_,by1⟩:=HX.out k x hx
    obtain ⟨b,B2,d2,rfl,hc2,_,_,by2⟩:=HY.out k y hy
    have HE:=Lib.hid (equal_any B1 B2 x y x.length y.length d1 d2 w rfl rfl (HA.out x (List.mem_of_getElem? hx)) (HB.out y (List.mem_of_getElem? hy)) by1 by2)
    have H1:=Lib.hid hx
    have H2:=Lib.hid hy
    generalize x.length=xl at *
    generalize y.length=yl at *
    clear hx hy by1 by2
    by_cases hq:x=y
    ·rw [decide_eq_true hq] at HE
     have HQ:=Lib.hid hq
     clear hq
     go_wp2_with fail
     refine HE.out.mono ?_
     rintro e w' ⟨rfl,rfl⟩
     go_wp2_with fail
     go_round
     case rel=>exact ⟨k+1,by go_num,by omega,by rw [take_snoc' H1.out,take_snoc' H2.out,HP.out,HQ.out]⟩
     case measure=>simp [intOf];omega
    ·rw [decide_eq_false hq] at HE
     have HNO:Hid (¬ ls=ms):=fun e=>hq (by have h1:=H1.out;rw [e,H2.out] at h1;injection h1 with h1;exact h1.symm)
     clear hq
     go_wp2_with fail
     refine HE.out.mono ?_
     rintro e w' ⟨rfl,rfl⟩
     go_wp2_with fail
     go_ret
     exact ⟨ret_bool (decide_eq_false HNO.out).symm,rfl⟩
   ·have HYES:Hid (ls=ms):=by
     have h:=HP.out
     rw [List.take_of_length_le (by rw [HN.out];omega),List.take_of_length_le (by rw [HM.out];omega)] at h
     exact h
    go_wp2
    go_ret
    exact ⟨ret_bool (decide_eq_true HYES.out).symm,rfl⟩
 ·have HNO:Hid (¬ ls=ms):=fun e=>hl (by rw [← HN.out,← HM.out,e])
  go_wp2
  go_ret
  exact ⟨ret_bool (decide_eq_false HNO.out).symm,rfl⟩
def wrsL:List Wr→List Value
 | []=>[]
 | x :: l=>wrL x++wrsL l
def Len56 (l:List Wr):Prop:=∀ x∈l,x.bs.length=56
theorem WrsOk.len {l:List Wr} (h:WrsOk l):Len56 l:=fun x hx=>(h x hx).len
theorem wrsL_append:∀ (l m:List Wr),wrsL (l++m)=wrsL l++wrsL m
 | [],_=>rfl
 | x :: l,m=>by show wrL x++wrsL (l++m)=_;rw [wrsL_append l m,← List.append_assoc];rfl
theorem wrsL_at:∀ {l:List Wr},Len56 l→∀ {i:Nat} {x:Wr},l[i]?=some x→∀ {j:Nat} {v:Value},(wrL x)[j]?=some v→(wrsL l)[i*58+j]?=some v
 | [],_,i,x,h,_,_,_=>by cases h
 | y :: l,hl,0,x,h,j,v,hj=>by
   injection h with h;subst h
   show (wrL y++wrsL l)[0*58+j]?=some v
   rw [Nat.zero_mul,Nat.zero_add,List.getElem?_append_left (List.getElem?_eq_some_iff.1 hj).1];exact hj
 | y :: l,hl,i+1,x,h,j,v,hj=>by
   have h1:=wrsL_at (l:=l) (fun z hz=>hl z (by simp [hz])) (i:=i) h hj
   show (wrL y++wrsL l)[(i+1)*58+j]?=some v
   rw [List.getElem?_append_right (by rw [wrL_length (hl y (by simp))];omega),wrL_length (hl y (by simp)),show (i+1)*58+j-58=i*58+j by omega]
   exact h1
def OwnW (w:World) (base:Nat) (v:Value) (l:List Wr):Prop:=w.ownsRow base 73 58 v l.length (wrsL l)
theorem OwnW.nil (w:World) (base:Nat):OwnW w base (.slice none 0 0) []:=World.ownsRow_nil _ _ _ _
theorem OwnW.wrs {w:World} {base:Nat} {v:Value} {l:List Wr} (h:OwnW w base v l) (h56:Len56 l):∃ A d,v=.slice A l.length d∧l.length≤d∧d≤9223372036854775807∧Wrs w A l:=by
 rcases h.2 with ⟨rfl,h0⟩ | ⟨g,cap,cur,rfl,hb,hg,hn',hm,hs,ht⟩
 ·refine ⟨none,0,by rw [h0],by omega,by omega,fun i x hi=>?_⟩
  rw [List.length_eq_zero_iff.1 h0] at hi;cases hi
 ·refine ⟨some ⟨g,0,none⟩,cap,rfl,hn',by simp only [maxLen] at hm;omega,fun i x hi=>⟨_,rfl,fun j v hj=>?_⟩⟩
  have:=h.cells (g:=g) rfl _ _ (wrsL_at h56 hi hj)
  rw [add_add'];exact this
theorem wpList_oneW {ops:Array Oper} {rest:List Oper} {o:Oper} {a:Act} {w:World} {Q:Exit→Act→World→Prop} (hgd:o.guard=none) (x:Operand) (ho:o.op=.buildSlice 47 1 #[(0,x)]) (y:Wr) (h56:y.bs.length=56) (hx:a.eval x=.agg (wrA y))
 (h:wpList Tryz.prog ops Q rest (a.put o.dst (.slice (some ⟨w.heap.size,0,none⟩) 1 1)) (w.alloc (.cells (wrA y) 73))):wpList Tryz.prog ops Q (o :: rest) a w:=by
 obtain ⟨i0,hi,hz0,hz1,hz2⟩:=info_parts infoW
 exact wpList_plain hgd fun _ hK=>wp_one_of 47 x ho 73 i0 _ 58 Tryz.underlying47 hi hz0 hz1 (by decide) (by decide) _ hx (by show (wrA y).size=58;exact wrA_size h56) (hK _ _ h)
theorem wpList_app_wr {ops:Array Oper} {rest:List Oper} {o:Oper} {a:Act} {w:World} {Q:Exit→Act→World→Prop} (hgd:o.guard=none) (s x:Operand)
 (ho:o.op=.call { callee:=.builtin .append,args:=#[s,x],argTypes:=#[47,47] })
 (base:Nat) (v:Value) (l:List Wr) (hs:a.eval s=v) (hown:OwnW w base v l) (g:Nat) (y:Wr) (h56:y.bs.length=56) (hx:a.eval x=.slice (some ⟨g,0,none⟩) 1 1) (hg:WrAt w ⟨g,0,none⟩ y) (h63:l.length≤1000) (hbase:base≤w.heap.size)
 (h:∀ v' w',OwnW w' base v' (l++[y])→Below base w w'→wpList Tryz.prog ops Q rest (a.put o.dst v') w'):wpList Tryz.prog ops Q (o :: rest) a w:=by
 obtain ⟨i0,hi,hz0,hz1,hz2⟩:=info_parts infoW
 refine wpList_append_own_at (P:=Tryz.prog) w hgd s x 47 ho base 73 i0 _ 58 72 Tryz.underlying47 hi hz0 hz1 hz2 (by show (wrA zW).size=58;exact wrA_size zW_len) (by decide) v l.length _ hs hown ⟨g,0,none⟩ 1 1 (wrL y) hx (by rw [wrL_length h56]) hg (wrL_one y) (by simp only [maxLen];omega) (by omega) hbase ?_
 intro v' w' h2 h3 _ _
 refine h v' w' ?_ (grown_below h3 hbase (fun k hk=>(hown.lt k hk).1))
 unfold OwnW
 rw [wrsL_append,List.length_append]
 simpa [wrsL] using h2
theorem wp_scope2f {P:Program} {a:Act} {w:World} {Q:Exit→Act→World→Prop} {c r0 r1:Code} (J0 J1:Act→World→Prop) (μ:Act→World→Nat)
 (h0:findLabel c 0=some r0) (h1:findLabel c 1=some (.seq .skip r1))
 (first:(∀ a w,J1 a w→r1.wp P (jumps (fun l a w=>match l with | 0=>J0 a w | 1=>J1 a w | _=>False) Q) a w)→c.wp P (jumps (fun l a w=>match l with | 0=>J0 a w | 1=>J1 a w | _=>False) Q) a w)
 (pass1:∀ a w,J1 a w→r1.wp P (jumps (fun l a' w'=>match l with | 0=>J0 a' w' | 1=>J1 a' w'∧μ a' w'<μ a w | _=>False) Q) a w)
 (pass0:∀ a w,J0 a w→r0.wp P (jumps (fun _ _ _=>False) Q) a w):(Code.scope c).wp P Q a w:=by
 refine wp_scope_multi (fun l a w=>match l with | 0=>J0 a w | 1=>J1 a w | _=>False) (fun l a w=>match l with | 1=>μ a w+1 | _=>0) ?_ (first fun a w h=>?_) ?_
 ·intro l a w h
  match l,h with
  | 0,_=>exact ⟨_,h0⟩
  | 1,_=>exact ⟨_,h1⟩
 ·refine wp_mono (pass1 a w h) ?_
  intro e a' w' he
  cases e with
  | goto l'=>match l',he with
    | 0,he=>exact he
    | 1,he=>exact he.1
  | _=>exact he
 ·intro l rest hl a w hJ
  match l,hJ with
  | 1,hJ =>
    rw [h1] at hl;injection hl with hl;subst hl
    refine wp_seq (wp_skip (wp_mono (pass1 a w hJ) ?_))
    intro e a' w' he
    cases e with
    | goto l'=>match l',he with
      | 0,he=>exact ⟨he,Nat.succ_pos _⟩
      | 1,he=>exact ⟨he.1,Nat.succ_lt_succ he.2⟩
    | _=>exact he
  | 0,hJ =>
    rw [h0] at hl;injection hl with hl;subst hl
    refine wp_mono (pass0 a w hJ) ?_
    intro e a' w' he
    cases e with
    | goto l'=>exact he.elim
    | _=>exact he
def sliceLen:Value→Nat
 | .slice _ n _=>n
 | _=>0
def RdEnd (w:World) (a':Act) (w':World):Prop:=Below w.heap.size w w'∧∃ u0 u1 u2 u3 u4 u5 u6 u7 u8 u9 u10 u11 u12 u13 u14 u15 u16 u17 u18 u19 u20 u21 u22 u23 u24 u25 u26 u27 u28 u29 u30 u31 u32 u33 u34 u35 u36 u37 u38 u39 u40 u41 u42 u43 u44 u45 u46 u47 u48 u49 u50 u51 u52:Value,a'={ tmps:=#[u0,u1,u2,u3,u4,u5,u6,u7,u8,u9,u10,u11,u12,u13,u14,u15,u16,u17,u18,u19,u20,u21,u22,u23,u24,u25,u26,u27,u28,u29,u30,u31,u32,u33,u34,u35,u36,u37,u38,u39,u40,u41,u42,u43,u44,u45,u46,u47,u48,u49,u50,u51,u52],defers:=[] }
def RdNext (w:World) (A:Option Addr) (n c:Nat) (fa:Addr) (fd cn:Nat) (log:List (List Int)) (a':Act) (w':World):Prop:=∃ (k:Nat) (v:Value),k≤cn∧OwnW w' w.heap.size v (readW log k)∧Below w.heap.size w w'∧sliceLen v=k∧∃ u1 u7 u8 u9 u10 u11 u12 u13 u14 u15 u16 u17 u18 u19 u20 u21 u22 u23 u24 u25 u26 u27 u28 u29 u30 u31 u32 u33 u34 u35 u36 u37 u38 u39 u40 u41 u42 u43 u44 u45 u46 u47 u48 u49 u50 u51 u52:Value,a'={ tmps:=#[.slice A n c,u1,.slice none 0 0,.bool false,v,.slice (some fa) 64 fd,.int .i64 cn,u7,u8,u9,u10,u11,u12,u13,u14,u15,u16,u17,u18,u19,u20,u21,u22,u23,u24,u25,u26,u27,u28,u29,u30,u31,u32,u33,u34,u35,u36,u37,u38,u39,u40,u41,u42,u43,u44,u45,u46,u47,u48,u49,u50,u51,u52],defers:=[] }
theorem own_len {w:World} {base:Nat} {v:Value} {l:List Wr} (h:OwnW w base v l):sliceLen v=l.length:=by
 rcases h.2 with ⟨rfl,h0⟩ | ⟨g,cap,cur,rfl,_⟩
 ·rw [h0];rfl
 ·rfl
structure JRD (base:Nat) (w:World) (lv:Value) (l:List Wr) (W:World):Prop where
 bel:Below base w W
 row:OwnW W base lv l
def VRD (base:Nat) (ad fa:Addr) (n c fd k p q d bl:Nat) (B Av:Option Addr) (dv:Nat) (y:Wr) (l:List Wr) (i:Nat) (v:Value) (w:World):Prop :=
 match i with
 | 0 | 2 | 8=>v=.slice Av k dv
 | 1=>v=.slice (some fa) 64 fd
 | 3 | 9=>v=.int .i64 k
 | 4=>v=.int .i64 (3*(k:Int))
 | 5=>v=.int .i64 (q:Nat)
 | 6=>v=.slice (some (fa.add q)) (64-q) (fd-q)
 | 7=>v=.slice (some ad) n c
 | 10=>v=.int .i64 (p:Nat)
 | 11=>v=.pointer (some (ad.add p))
 | 12=>v=.slice B bl d
 | 13=>v=.agg (wrA y)
 | 14=>∃ g,v=.slice (some ⟨g,0,none⟩) 1 1∧w.heap[g]?=some (.cells (wrA y) 73 (0,0))∧(Value.slice Av k dv).ownBlock≠some g
 | 15=>OwnW w base v (l++[y])
 | _=>True
def SRD (lv:Value) (i:Nat) (w w':World):Prop:=w.grownBy w' (if i=15 then lv.ownBlock else none)
theorem VRD.on {base:Nat} {ad fa:Addr} {n c fd k p q d bl:Nat} {B Av:Option Addr} {dv:Nat} {y:Wr} {l:List Wr} {i j:Nat} {v:Value} {w w':World} (hij:i≠j) (h:VRD base ad fa n c fd k p q d bl B Av dv y l j v w) (hs:SRD (.slice Av k dv) i w w'):VRD base ad fa n c fd k p q d bl B Av dv y l j v w':=by
 unfold SRD at hs
 unfold VRD at *
 split <;> try exact h
 ·obtain ⟨g,h1,h2,h3⟩:=h
  refine ⟨g,h1,?_,h3⟩
  rw [hs.block g (room_lt h2) (by split;exact fun e=>h3 e.symm;simp)];exact h2
 ·rw [if_neg hij] at hs
  exact World.ownsRow.kept h hs (by cases v.ownBlock <;> simp)
 ·trivial
theorem wp_app_wr {w:World} {o:Oper} {a:Act} {K:Act→World→Prop} {Q:Exit→Act→World→Prop} (s x:Operand)
 (ho:o.op=.call { callee:=.builtin .append,args:=#[s,x],argTypes:=#[47,47] })
 (base:Nat) (v:Value) (l:List Wr) (hs:a.eval s=v) (hown:OwnW w base v l) (g:Nat) (y:Wr) (h56:y.bs.length=56) (hx:a.eval x=.slice (some ⟨g,0,none⟩) 1 1) (hg:WrAt w ⟨g,0,none⟩ y) (h63:l.length≤1000) (hbase:base≤w.heap.size)
 (h:∀ v' w',OwnW w' base v' (l++[y])→w.grownBy w' v.ownBlock→OwnW w' base v l→K (a.put o.dst v') w'):o.wp Tryz.prog a w K Q:=by
 obtain ⟨i0,hi,hz0,hz1,hz2⟩:=info_parts infoW
 have hzs:(Value.agg (wrA zW)).cells.size=58:=by show (wrA zW).size=58;exact wrA_size zW_len
 obtain ⟨v',w',hr,h2,h3,_,_⟩:=run_append_own_at (P:=Tryz.prog) w base 47 o.type 73 i0 _ 58 72 Tryz.underlying47 hi hz0 hz1 hz2 hzs (by decide) v l.length _ hown ⟨g,0,none⟩ 1 1 (wrL y) (by rw [wrL_length h56]) hg (wrL_one y) (by simp only [maxLen];omega) (by omega) hbase
 have h4:=append_old (w:=w) (w':=w') 47 o.type 73 i0 _ 58 72 Tryz.underlying47 hi hz0 hz1 hz2 hzs (by decide) v l.length _ (hown.mono (Nat.zero_le _)) ⟨g,0,none⟩ 1 1 (wrL y) (by rw [wrL_length h56]) hg (wrL_one y) (by simp only [maxLen];omega) (by omega) hr
 have h5:OwnW w' base v l:=by
  refine ⟨h4.1,?_⟩
  rcases h4.2 with h6 | ⟨g',cap,cur,e,_,h7⟩
  ·exact Or.inl h6
  ·exact Or.inr ⟨g',cap,cur,e,(hown.lt g' (by rw [e];rfl)).1,h7⟩
 unfold Oper.wp execOp
 simp only [ho,resolve,invoke,builtin,Sem.run_bind,Sem.run_pure,Result.andThen_ok,List.map_toArray,List.map_cons,List.map_nil,hs,hx,hr]
 refine h v' w' ?_ h3 h5
 unfold OwnW
 rw [wrsL_append,List.length_append]
 simpa [wrsL] using h2
def readX (log:List (List Int)):List Wr:=if CanRead log then readW log (cnt log) else []
set_option maxRecDepth 100000 in
set_option maxHeartbeats 3200000 in
theorem read_any (A:Option Addr) (log:List (List Int)) (n c:Nat) (w:World) (hn:log.length=n) (hl:n≤c) (hc:c≤9223372036854775807) (hok:TxOk log) (hy:Tx w A log) :
 Calls Tryz.prog 109 #[.slice A n c] w fun e w'=>∃ v,e=.returned (.tuple #[v,.bool (decide (CanRead log))])∧OwnW w' w.heap.size v (readX log)∧Below w.heap.size w w':=by
 have HY:=Lib.hid hy
 have HN:=Lib.hid hn
 have HO:=Lib.hid hok
 clear hn hok hy
 have hno:¬ CanRead log→readX log=[]:=fun h=>by unfold readX;rw [if_neg h]
 have HNO:=Lib.hid hno
 clear hno
 go_enter Tryz.func109,Tryz.ntmps109
 go_wp2
 by_cases h0:n=0
 ·subst h0
  have HF:Hid (¬ CanRead log):=fun h=>by have:=h.2.2;rw [HN.out] at this;omega
  refine wp_scope2f (RdEnd w) (fun _ _=>False) (fun _ _=>0) rfl rfl ?_ (fun _ _ h=>h.elim) ?_
  ·intro _
   go_wp2
   go_step3
   exact (show RdEnd _ _ _ from ⟨Below.refl _ _,_,_,_,_,_,_,_,_,_,_,_,_,_,_,_,_,_,_,_,_,_,_,_,_,_,_,_,_,_,_,_,_,_,_,_,_,_,_,_,_,_,_,_,_,_,_,_,_,_,_,_,_,_, rfl⟩)
  ·rintro a' W ⟨hbel,u0,u1,u2,u3,u4,u5,u6,u7,u8,u9,u10,u11,u12,u13,u14,u15,u16,u17,u18,u19,u20,u21,u22,u23,u24,u25,u26,u27,u28,u29,u30,u31,u32,u33,u34,u35,u36,u37,u38,u39,u40,u41,u42,u43,u44,u45,u46,u47,u48,u49,u50,u51,u52,rfl⟩
   go_wp2
   try simp only [jumps]
   go_ret2
   exact ⟨.slice none 0 0,by rw [decide_eq_false HF.out];rfl,by rw [HNO.out HF.out];exact OwnW.nil _ _,hbel⟩
 ·obtain ⟨b0,hb0⟩:∃ b0,log[0]?=some b0:=⟨_,List.getElem?_eq_getElem (by rw [HN.out];omega)⟩
  have hhd:log.headD []=b0:=by
   cases log with
   | nil=>cases hb0
   | cons y l=>injection hb0
  obtain ⟨ad,F,fd,rfl,hc0,hfl,hfd,hby⟩:=HY.out 0 b0 hb0
  have ea:ad.add 0=ad:=by unfold Addr.add;simp
  rw [ea] at hc0
  have HB0:=Lib.hid (HO.out b0 (List.mem_of_getElem? hb0))
  have HHD:=Lib.hid hhd
  have HBY:=Lib.hid hby
  clear ea hby hhd hb0
  by_cases h64:b0.length=64
  ·have HL64:=Lib.hid h64
   rw [h64] at hc0 hfl
   obtain ⟨x10,hx10⟩:∃ x10,b0[10]?=some x10:=⟨_,List.getElem?_eq_getElem (by rw [h64];omega)⟩
   obtain ⟨fa,rfl,hc10⟩:=HBY.out 10 x10 hx10
   have hxb:=HB0.out x10 (List.mem_of_getElem? hx10)
   obtain ⟨cn,rfl⟩:∃ cn:Nat,x10=(cn:Int):=⟨x10.toNat,by omega⟩
   have HCN:Hid (cnt log=cn):=by unfold Hid cnt;rw [HHD.out,List.getD,hx10];simp
   rw [show (10:Nat)=9+1 from rfl,add_sum fa 9] at hc10
   clear hx10 h64
   by_cases h12:12<cn
   ·have HF:Hid (¬ CanRead log):=fun h=>by have:=h.2.1;rw [HCN.out] at this;omega
    have hd1:decide (12<(cn:Int))=true:=decide_eq_true (by omega)
    refine wp_scope2f (RdEnd w) (fun _ _=>False) (fun _ _=>0) rfl rfl ?_ (fun _ _ h=>h.elim) ?_
    ·intro _
     go_wp2
     go_step3
     exact (show RdEnd _ _ _ from ⟨Below.refl _ _,_,_,_,_,_,_,_,_,_,_,_,_,_,_,_,_,_,_,_,_,_,_,_,_,_,_,_,_,_,_,_,_,_,_,_,_,_,_,_,_,_,_,_,_,_,_,_,_,_,_,_,_,_, rfl⟩)
    ·rintro a' W ⟨hbel,u0,u1,u2,u3,u4,u5,u6,u7,u8,u9,u10,u11,u12,u13,u14,u15,u16,u17,u18,u19,u20,u21,u22,u23,u24,u25,u26,u27,u28,u29,u30,u31,u32,u33,u34,u35,u36,u37,u38,u39,u40,u41,u42,u43,u44,u45,u46,u47,u48,u49,u50,u51,u52,rfl⟩
     go_wp2
     try simp only [jumps]
     go_ret2
     exact ⟨.slice none 0 0,by rw [decide_eq_false HF.out];rfl,by rw [HNO.out HF.out];exact OwnW.nil _ _,hbel⟩
   have hd1:decide (12<(cn:Int))=false:=decide_eq_false (by omega)
   by_cases hcn:n≤cn
   ·have HF:Hid (¬ CanRead log):=fun h=>by have:=h.2.2;rw [HCN.out,HN.out] at this;omega
    have hd2:decide ((n:Int)≤cn)=true:=decide_eq_true (by omega)
    refine wp_scope2f (RdEnd w) (fun _ _=>False) (fun _ _=>0) rfl rfl ?_ (fun _ _ h=>h.elim) ?_
    ·intro _
     go_wp2
     go_step3
     exact (show RdEnd _ _ _ from ⟨Below.refl _ _,_,_,_,_,_,_,_,_,_,_,_,_,_,_,_,_,_,_,_,_,_,_,_,_,_,_,_,_,_,_,_,_,_,_,_,_,_,_,_,_,_,_,_,_,_,_,_,_,_,_,_,_,_, rfl⟩)
    ·rintro a' W ⟨hbel,u0,u1,u2,u3,u4,u5,u6,u7,u8,u9,u10,u11,u12,u13,u14,u15,u16,u17,u18,u19,u20,u21,u22,u23,u24,u25,u26,u27,u28,u29,u30,u31,u32,u33,u34,u35,u36,u37,u38,u39,u40,u41,u42,u43,u44,u45,u46,u47,u48,u49,u50,u51,u52,rfl⟩
     go_wp2
     try simp only [jumps]
     go_ret2
     exact ⟨.slice none 0 0,by rw [decide_eq_false HF.out];rfl,by rw [HNO.out HF.out];exact OwnW.nil _ _,hbel⟩
   have hd2:decide ((n:Int)≤cn)=false:=decide_eq_false (by omega)
   have HT:Hid (CanRead log):=⟨by rw [HHD.out];exact HL64.out,by rw [HCN.out];omega,by rw [HCN.out,HN.out];omega⟩
   have HRX:Hid (readX log=readW log cn):=by unfold Hid readX;rw [if_pos HT.out,HCN.out]
   refine wp_scope2f (fun _ _=>False) (RdNext w (some ad) n c fa fd cn log) (fun a' _=>cn-sliceLen (a'.tmps.getD 4 undef)) rfl rfl ?_ ?_ (fun _ _ h=>h.elim)
   ·intro HF0
    have HF:=Lib.hid HF0
    clear HF0
    go_wp2
    go_step3
    rename_i hK
    refine hK _ _ (HF.out _ _ ⟨0,.slice none 0 0,Nat.zero_le _,OwnW.nil _ _,Below.refl _ _,rfl,_,_,_,_,_,_,_,_,_,_,_,_,_,_,_,_,_,_,_,_,_,_,_,_,_,_,_,_,_,_,_,_,_,_,_,_,_,_,_,_,_,_,_,_,_,_,_, rfl⟩)
   ·rintro a' W ⟨k,v,hk,own,hbel,hsl,u1,u7,u8,u9,u10,u11,u12,u13,u14,u15,u16,u17,u18,u19,u20,u21,u22,u23,u24,u25,u26,u27,u28,u29,u30,u31,u32,u33,u34,u35,u36,u37,u38,u39,u40,u41,u42,u43,u44,u45,u46,u47,u48,u49,u50,u51,u52,rfl⟩
    have h56:=(readW_ok HO.out k).len
    obtain ⟨Av,dv,rfl,_,_,_⟩:=own.wrs h56
    rw [readW_length]
    have HOW:=Lib.hid own
    rw [readW_length] at HOW
    clear own h56 hsl
    by_cases hkc:k=cn
    ·subst hkc
     go_wp2
     try simp only [jumps]
     go_ret2
     exact ⟨_,by rw [decide_eq_true HT.out];rfl,by rw [HRX.out];exact HOW.out,hbel⟩
    ·have hq:((k:Int)==cn)=false:=by simp;omega
     obtain ⟨bx,hbx⟩:∃ bx,log[1+k]?=some bx:=⟨_,List.getElem?_eq_getElem (by rw [HN.out];omega)⟩
     obtain ⟨a',B,d,e',hcx,hbl,hd',hbyx⟩:=HY.out (1+k) bx hbx
     injection e' with e';subst e'
     obtain ⟨p,hp,HP⟩:∃ p:Nat,1+(k:Int)=p∧Hid (p=1+k):=⟨1+k,by omega,rfl⟩
     obtain ⟨q,hqq,HQ⟩:∃ q:Nat,11+3*(k:Int)=q∧Hid (q=11+3*k):=⟨11+3*k,by omega,rfl⟩
     have hpn:(p:Int)<n:=by omega
     have hq64:q≤44:=by omega
     have hq64':(q:Int)≤64:=by omega
     have hfq:¬ fd=q:=by omega
     have w3:IntKind.i64.wrap (3*(k:Int))=3*(k:Int):=IntWalk.i64_in _ (by omega)
     have wq:IntKind.i64.wrap (q:Int)=q:=IntWalk.i64_in _ (by omega)
     have wp:IntKind.i64.wrap (p:Int)=p:=IntWalk.i64_in _ (by omega)
     have HC1:Hid (∀ W',Below w.heap.size w W'→W'.cell? (ad.add p)=some (.slice B bx.length d)):=fun W' hW=>by rw [HP.out];exact keepC hW hcx
     have HBX:=Lib.hid hbx
     have hwat:wAt log k=⟨numV ((b0.drop q).take 2),b0.getD (q+2) 0,padB bx⟩:=by
      unfold wAt;rw [HHD.out,HQ.out,List.getD_eq_getElem?_getD (l:=log),hbx,show 11+3*k+2=13+3*k by omega];rfl
     obtain ⟨y2,hy2⟩:∃ y2,b0[q+2]?=some y2:=⟨_,List.getElem?_eq_getElem (by rw [HL64.out];omega)⟩
     have hyg:b0.getD (q+2) 0=y2:=by rw [List.getD,hy2];rfl
     rw [hyg] at hwat
     have HW:Hid (∀ W',Below w.heap.size w W'→Calls Tryz.prog 115 #[.slice (some (fa.add q)) (64-q) (fd-q),.slice B bx.length d] W' fun e w'=>e=.returned (.agg (wrA (wAt log k)))∧Below W'.heap.size W' w'):=fun W' hW=>by
      rw [hwat]
      refine writeof_any _ B (b0.drop q) bx (64-q) (fd-q) bx.length d y2 W' (by rw [List.length_drop,HL64.out]) (by omega) (by omega) (by omega) rfl (fun z hz=>HB0.out z (List.mem_of_mem_drop hz)) (by rw [List.getElem?_drop];exact hy2) ?_ (hbyx.keep hW)
      intro i z hz
      rw [List.getElem?_drop] at hz
      obtain ⟨a2,e2,h2⟩:=(HBY.out.keep hW) _ _ hz
      injection e2 with e2;subst e2
      exact ⟨_,rfl,by rw [add_add'];exact h2⟩
     have HY56:Hid ((wAt log k).bs.length=56):=(wAt_ok HO.out k).len
     clear hcx hbx hbyx hwat hy2 hyg
     go_upto_region 10 with fail
     have srefl:∀ (i:Nat) (W:World),SRD (.slice Av k dv) i W W:=fun i W=>World.grownBy.refl _ _
     have hJ0:JRD w.heap.size w (.slice Av k dv) (readW log k) W.drew:=⟨hbel.drew,HOW.out⟩
     refine wp_region_rgk (VRD w.heap.size ad fa n c fd k p q d bx.length B Av dv (wAt log k) (readW log k)) (fun _ W=>JRD w.heap.size w (.slice Av k dv) (readW log k) W) (SRD (.slice Av k dv)) (by kernel_rfl) (by kernel_rfl) (fun i j v' w' w'' hij hind h hg=>h.on hij hg) hJ0 ?_
     clear hJ0
     simp only [RAll]
     refine ⟨?_,?_,?_,?_,?_,?_,?_,?_,?_,?_,?_,?_,?_,?_,?_,?_,?_⟩
     ·refine RStepK.of rfl fun T W L hag hL hJ hLs hd=>?_
      have e4:T.getD 4 undef=_:=(agree_at hag 4 (by kernel_rfl)).trans rfl
      clear hag hd
      go_simp
      exact ⟨_,rfl,rfl⟩
     ·refine RStepK.of rfl fun T W L hag hL hJ hLs hd=>?_
      have e5:T.getD 5 undef=_:=(agree_at hag 5 (by kernel_rfl)).trans rfl
      clear hag hd
      go_simp
      exact ⟨_,rfl,rfl⟩
     ·refine RStepK.of rfl fun T W L hag hL hJ hLs hd=>?_
      have e4:T.getD 4 undef=_:=(agree_at hag 4 (by kernel_rfl)).trans rfl
      clear hag hd
      go_simp
      exact ⟨_,rfl,rfl⟩
     ·refine RStepK.of rfl fun T W L hag hL hJ hLs hd=>?_
      have d39:T.getD 39 undef=_:=hd ⟨2,.data⟩ (by simp) rfl _ rfl
      clear hag hd
      go_simp
      exact ⟨_,rfl,rfl⟩
     ·refine RStepK.of rfl fun T W L hag hL hJ hLs hd=>?_
      have d40:T.getD 40 undef=_:=hd ⟨3,.data⟩ (by simp) rfl _ rfl
      clear hag hd
      go_simp
      exact ⟨_,rfl,rfl⟩
     ·refine RStepK.of rfl fun T W L hag hL hJ hLs hd=>?_
      have d41:T.getD 41 undef=_:=hd ⟨4,.data⟩ (by simp) rfl _ rfl
      clear hag hd
      go_simp
      exact ⟨_,rfl,rfl⟩
     ·refine RStepK.of rfl fun T W L hag hL hJ hLs hd=>?_
      have d38:T.getD 38 undef=_:=hd ⟨1,.data⟩ (by simp) rfl _ rfl
      have d42:T.getD 42 undef=_:=hd ⟨5,.data⟩ (by simp) rfl _ rfl
      clear hag hd
      go_simp
      exact ⟨_,rfl,rfl⟩
     ·refine RStepK.of rfl fun T W L hag hL hJ hLs hd=>?_
      have e0:T.getD 0 undef=_:=(agree_at hag 0 (by kernel_rfl)).trans rfl
      clear hag hd
      go_simp
      exact ⟨_,rfl,rfl⟩
     ·refine RStepK.of rfl fun T W L hag hL hJ hLs hd=>?_
      have e4:T.getD 4 undef=_:=(agree_at hag 4 (by kernel_rfl)).trans rfl
      clear hag hd
      go_simp
      exact ⟨_,rfl,rfl⟩
     ·refine RStepK.of rfl fun T W L hag hL hJ hLs hd=>?_
      have d45:T.getD 45 undef=_:=hd ⟨8,.data⟩ (by simp) rfl _ rfl
      clear hag hd
      go_simp
      exact ⟨_,rfl,rfl⟩
     ·refine RStepK.of rfl fun T W L hag hL hJ hLs hd=>?_
      have d46:T.getD 46 undef=_:=hd ⟨9,.data⟩ (by simp) rfl _ rfl
      clear hag hd
      go_simp
      exact ⟨_,rfl,rfl⟩
     ·refine RStepK.of rfl fun T W L hag hL hJ hLs hd=>?_
      have d44:T.getD 44 undef=_:=hd ⟨7,.data⟩ (by simp) rfl _ rfl
      have d47:T.getD 47 undef=_:=hd ⟨10,.data⟩ (by simp) rfl _ rfl
      clear hag hd
      go_simp
      exact ⟨_,rfl,rfl⟩
     ·refine RStepK.of rfl fun T W L hag hL hJ hLs hd=>?_
      have d48:T.getD 48 undef=_:=hd ⟨11,.data⟩ (by simp) rfl _ rfl
      have fct0:=HC1.out W hJ.bel
      clear hag hd
      go_simp
      exact ⟨_,rfl,rfl⟩
     ·refine RStepK.of rfl fun T W L hag hL hJ hLs hd=>?_
      have d43:T.getD 43 undef=_:=hd ⟨6,.data⟩ (by simp) rfl _ rfl
      have d49:T.getD 49 undef=_:=hd ⟨12,.data⟩ (by simp) rfl _ rfl
      clear hag hd
      go_simp
      refine (HW.out W hJ.bel).mono ?_;rintro en w' ⟨rfl,hb⟩
      exact ⟨_,rfl,rfl,⟨hJ.bel.trans (hb.mono hJ.bel.size),ownB hJ.row hb⟩,growN hb⟩
     ·refine RStepK.of rfl fun T W L hag hL hJ hLs hd=>?_
      have d50:T.getD 50 undef=_:=hd ⟨13,.data⟩ (by simp) rfl _ rfl
      clear hag hd
      obtain ⟨i0,hi,hz0,hz1,hz2⟩:=info_parts infoW
      refine wp_one_of 47 (.tmp 50) rfl 73 i0 _ 58 Tryz.underlying47 hi hz0 hz1 (by decide) (by decide) _ d50 (by show (wrA _).size=58;exact wrA_size HY56.out) ?_
      exact ⟨_,rfl,⟨W.heap.size,rfl,heap_alloc_new W _,fun e=>Nat.lt_irrefl _ (hJ.row.lt _ e).2⟩,⟨hJ.bel.alloc hJ.bel.size _,hJ.row.alloc _⟩,World.grownBy_alloc W _ _⟩
     ·refine RStepK.of rfl fun T W L hag hL hJ hLs hd=>?_
      have d37:T.getD 37 undef=_:=hd ⟨0,.data⟩ (by simp) rfl _ rfl
      obtain ⟨g,(e51:T.getD 51 undef=_),hg,hne⟩:=hd ⟨14,.data⟩ (by simp) rfl _ rfl
      refine wp_app_wr (.tmp 37) (.tmp 51) rfl w.heap.size _ _ d37 hJ.row g _ HY56.out e51 (wrAt_blk hg) (by rw [readW_length];omega) hJ.bel.size ?_
      intro v' w' h1 h2 h3
      exact ⟨_,rfl,h1,⟨hJ.bel.trans (grown_below h2 hJ.bel.size (fun k hk=>(hJ.row.lt k hk).1)),h3⟩,h2⟩
     ·refine RLastK.of rfl fun T W L hag hLs hL hJ hd=>?_
      have x52:OwnW W w.heap.size (T.getD 52 undef) (readW log k++[wAt log k]):=hd 15 _ (by simp) rfl
      obtain ⟨f,hf,hT⟩:=agree_fn hag
      have h52:=hf 52
      rw [← h52] at x52
      have HX:=Lib.hid x52
      have HJ:=Lib.hid hJ.bel
      clear hag hd x52 h52 hJ hf
      rw [hT]
      clear hT
      simp only [List.pop_toArray,List.dropLast_cons_cons,List.dropLast_singleton,List.filterMap_cons,List.filterMap_nil,List.foldl_cons,List.foldl_nil,List.setIfInBounds_toArray,List.set_cons_succ,List.set_cons_zero]
      go_wp2_with fail
      go_step3
      exact ⟨⟨k+1,_,by omega,by rw [readW_snoc];exact HX.out,HJ.out,by rw [own_len HX.out];simp [readW_length],_,_,_,_,_,_,_,_,_,_,_,_,_,_,_,_,_,_,_,_,_,_,_,_,_,_,_,_,_,_,_,_,_,_,_,_,_,_,_,_,_,_,_,_,_,_,_, rfl⟩,by have:=own_len HX.out;simp [sliceLen,readW_length] at this ⊢;omega⟩
  ·have HF:Hid (¬ CanRead log):=fun h=>h64 (by have:=h.1;rwa [HHD.out] at this)
   generalize b0.length=bl at *
   have hq0:((n:Int)==0)=false:=by simp;omega
   have hq1:((bl:Int) != 64)=true:=by simp;omega
   refine wp_scope2f (RdEnd w) (fun _ _=>False) (fun _ _=>0) rfl rfl ?_ (fun _ _ h=>h.elim) ?_
   ·intro _
    go_wp2
    go_step3
    exact (show RdEnd _ _ _ from ⟨Below.refl _ _,_,_,_,_,_,_,_,_,_,_,_,_,_,_,_,_,_,_,_,_,_,_,_,_,_,_,_,_,_,_,_,_,_,_,_,_,_,_,_,_,_,_,_,_,_,_,_,_,_,_,_,_,_, rfl⟩)
   ·rintro a' W ⟨hbel,u0,u1,u2,u3,u4,u5,u6,u7,u8,u9,u10,u11,u12,u13,u14,u15,u16,u17,u18,u19,u20,u21,u22,u23,u24,u25,u26,u27,u28,u29,u30,u31,u32,u33,u34,u35,u36,u37,u38,u39,u40,u41,u42,u43,u44,u45,u46,u47,u48,u49,u50,u51,u52,rfl⟩
    go_wp2
    try simp only [jumps]
    go_ret2
    exact ⟨.slice none 0 0,by rw [decide_eq_false HF.out];rfl,by rw [HNO.out HF.out];exact OwnW.nil _ _,hbel⟩
theorem takeV_no {lb:Int} {e s:Nat} {log:List (List Int)} (h:¬ Taken lb e s log):takeV lb e s log=[]∧takeN lb e s log=0:=by
 unfold takeV takeN;rw [if_neg h,if_neg h];exact ⟨rfl,rfl⟩
theorem takeV_yes {lb:Int} {e s:Nat} {log:List (List Int)} (h:Taken lb e s log):takeV lb e s log=readW log (cnt log)∧takeN lb e s log=1+cnt log:=by
 unfold takeV takeN;rw [if_pos h,if_pos h];exact ⟨rfl,rfl⟩
theorem putL_txOk {lb:Int} (e s:Nat) {l:List Wr} (hlb:0≤lb∧lb≤255) (hm:MayL l) (hok:WrsOk l):TxOk (putL lb e s l):=fun b hb=>by
 unfold putL at hb
 rcases List.mem_cons.1 hb with rfl | hb
 ·exact sumd_allB (headR_allB e s hlb hm)
 ·obtain ⟨x,hx,rfl⟩:=List.mem_map.1 hb
  exact sumd_allB (bearB_allB (hok x hx).b)
set_option maxRecDepth 100000 in
set_option maxHeartbeats 3200000 in
theorem take_any (lb:Int) (e s:Nat) (A:Option Addr) (log:List (List Int)) (n c:Nat) (w:World) (hlb:0≤lb∧lb≤255) (he:e<4294967296) (hs:s<4294967296) (hn:log.length=n) (hl:n≤c) (hc:c≤9223372036854775807) (hok:TxOk log) (hy:Tx w A log) :
 Calls Tryz.prog 86 #[.int .u8 lb,.int .u32 e,.int .u32 s,.slice A n c] w fun en w'=>∃ v,en=.returned (.tuple #[v,.int .i64 (takeN lb e s log),.bool (decide (Taken lb e s log))])∧OwnW w' w.heap.size v (takeV lb e s log)∧Below w.heap.size w w':=by
 have HY:=Lib.hid hy
 have HN:=Lib.hid hn
 have HO:=Lib.hid hok
 have HRD:=Lib.hid (read_any A log n c w hn hl hc hok hy)
 have HNO:Hid (¬ Taken lb e s log→takeV lb e s log=[]∧takeN lb e s log=0∧decide (Taken lb e s log)=false):=fun h=>⟨(takeV_no h).1,(takeV_no h).2,decide_eq_false h⟩
 clear hn hok hy
 go_enter Tryz.func86,Tryz.ntmps86
 go_wp2
 refine wp_scope1e (fun a' w'=>Hid (Below w.heap.size w w'∧¬ Taken lb e s log)∧∃ u0 u1 u2 u3 u4 u5 u6 u7 u8 u9 u10 u11 u12 u13 u14 u15 u16 u17 u18 u19 u20 u21 u22 u23 u24 u25 u26 u27 u28 u29 u30 u31 u32 u33 u34 u35 u36 u37 u38 u39:Value,a'={ tmps:=#[u0,u1,u2,u3,u4,u5,u6,u7,u8,u9,u10,u11,u12,u13,u14,u15,u16,u17,u18,u19,u20,u21,u22,u23,u24,u25,u26,u27,u28,u29,u30,u31,u32,u33,u34,u35,u36,u37,u38,u39],defers:=[] }) (fun _ _=>0) rfl ?_ ?_
 ·intro _
  by_cases hcr:CanRead log
  ·have HRX:Hid (readX log=readW log (cnt log)):=by unfold Hid readX;rw [if_pos hcr]
   have hcn:cnt log<n:=by rw [← HN.out];exact hcr.2.2
   have hcn12:cnt log≤12:=hcr.2.1
   have HCR:=Lib.hid hcr
   rw [decide_eq_true hcr] at HRD
   clear hcr
   go_wp2_with fail
   refine HRD.out.mono ?_
   rintro en w1 ⟨v,rfl,own,hb1⟩
   rw [HRX.out] at own
   have hok1:=readW_ok HO.out (cnt log)
   obtain ⟨Av,dv,rfl,hdv,hdv2,hwv⟩:=own.wrs hok1.len
   rw [readW_length] at hdv ⊢
   have HOW:=Lib.hid own
   rw [readW_length] at HOW
   have HOK1:=Lib.hid hok1
   have HP:=Lib.hid (put_any lb e s Av (readW log (cnt log)) (cnt log) dv w1 hlb he hs (readW_length _ _) hdv hdv2 hok1 hwv)
   have HY1:=Lib.hid (HY.out.keep hb1)
   have HRL:=Lib.hid (readW_length log (cnt log))
   clear HRD own hok1 hwv
   generalize hlv:readW log (cnt log)=lv at *
   have HLV:=Lib.hid hlv
   clear hlv
   generalize hcc:cnt log=cn at *
   have HCC:=Lib.hid hcc
   clear hcc
   obtain ⟨p,hp,HPP⟩:∃ p:Nat,1+(cn:Int)=p∧Hid (p=1+cn):=⟨1+cn,by omega,rfl⟩
   have w1c:IntKind.i64.wrap (p:Int)=p:=IntWalk.i64_in _ (by omega)
   by_cases hmay:MayL lv
   ·have HPX:Hid (putX lb e s lv=putL lb e s lv):=by unfold Hid putX;rw [if_pos hmay]
    have HMAY:=Lib.hid hmay
    rw [decide_eq_true hmay] at HP
    have HTX:=Lib.hid (putL_txOk e s hlb hmay HOK1.out)
    clear hmay
    go_wp2_with fail
    refine HP.out.mono ?_
    rintro en w2 ⟨v2,rfl,ot2,hb2⟩
    rw [HPX.out] at ot2
    obtain ⟨A2,d2,rfl,hd2,hd22,htx2⟩:=ot2.tx
    rw [putL_length,HRL.out,← HPP.out] at hd2 ⊢
    have HY2:=Lib.hid (HY1.out.keep hb2)
    have HEQ:=Lib.hid (eqfunc_any A2 A (putL lb e s lv) (log.take p) p p d2 c w2 (by rw [putL_length,HRL.out,← HPP.out]) (by rw [List.length_take,HN.out];omega) (by omega) HTX.out (fun b hb=>HO.out b (List.mem_of_mem_take hb)) htx2 (HY2.out.take _))
    have HOW2:=Lib.hid (show OwnW w2 w.heap.size (.slice Av cn dv) lv from ownB HOW.out hb2)
    have HBL2:=Lib.hid (keepB hb1 hb2)
    clear ot2 htx2 hb1 hb2 hd2 HP
    by_cases hq:putL lb e s lv=log.take p
    ·have hT:Taken lb e s log:=⟨HCR.out,by rw [HCC.out,HLV.out];exact HMAY.out,by rw [HCC.out,HLV.out,← HPP.out];exact hq⟩
     have HTV:=Lib.hid (takeV_yes hT)
     have HT:=Lib.hid hT
     rw [decide_eq_true hq] at HEQ
     clear hq hT
     go_wp2_with fail
     refine HEQ.out.mono ?_
     rintro en w3 ⟨rfl,rfl⟩
     go_wp2_with fail
     try simp only [Exit.jump]
     go_ret3
     exact ⟨_,by rw [HTV.out.2,decide_eq_true HT.out,HCC.out,← HPP.out];rfl,by rw [HTV.out.1,HCC.out,HLV.out];exact HOW2.out,HBL2.out⟩
    ·have HNT:Hid (¬ Taken lb e s log):=fun h=>hq (by have:=h.2.2;rwa [HCC.out,HLV.out,← HPP.out] at this)
     rw [decide_eq_false hq] at HEQ
     clear hq
     go_wp2_with fail
     refine HEQ.out.mono ?_
     rintro en w3 ⟨rfl,rfl⟩
     go_wp2_with fail
     go_step3
     exact ⟨rfl,⟨HBL2.out,HNT.out⟩,_,_,_,_,_,_,_,_,_,_,_,_,_,_,_,_,_,_,_,_,_,_,_,_,_,_,_,_,_,_,_,_,_,_,_,_,_,_,_,_,rfl⟩
   ·have HNT:Hid (¬ Taken lb e s log):=fun h=>hmay (by have:=h.2.1;rwa [HCC.out,HLV.out] at this)
    rw [decide_eq_false hmay] at HP
    clear hmay
    go_wp2_with fail
    refine HP.out.mono ?_
    rintro en w2 ⟨v2,rfl,ot2,hb2⟩
    have HBL2:=Lib.hid (keepB hb1 hb2)
    go_wp2_with fail
    go_step3
    exact ⟨rfl,⟨HBL2.out,HNT.out⟩,_,_,_,_,_,_,_,_,_,_,_,_,_,_,_,_,_,_,_,_,_,_,_,_,_,_,_,_,_,_,_,_,_,_,_,_,_,_,_,_,rfl⟩
  ·have HNT:Hid (¬ Taken lb e s log):=fun h=>hcr h.1
   rw [decide_eq_false hcr] at HRD
   clear hcr
   go_wp2_with fail
   refine HRD.out.mono ?_
   rintro en w1 ⟨v,rfl,own,hb1⟩
   go_wp2_with fail
   go_step3
   exact ⟨rfl,⟨hb1,HNT.out⟩,_,_,_,_,_,_,_,_,_,_,_,_,_,_,_,_,_,_,_,_,_,_,_,_,_,_,_,_,_,_,_,_,_,_,_,_,_,_,_,_,rfl⟩
 ·rintro a' W ⟨HH,u0,u1,u2,u3,u4,u5,u6,u7,u8,u9,u10,u11,u12,u13,u14,u15,u16,u17,u18,u19,u20,u21,u22,u23,u24,u25,u26,u27,u28,u29,u30,u31,u32,u33,u34,u35,u36,u37,u38,u39,rfl⟩
  go_wp2
  try simp only [Exit.jump]
  go_ret3
  obtain ⟨h1,h2,h3⟩:=HNO.out HH.out.2
  exact ⟨.slice none 0 0,by rw [h2,h3];rfl,by rw [h1];exact OwnW.nil _ _,HH.out.1⟩
theorem builtW1 (t k:Int):Tryz.prog.built 73 [(0,.int .i64 t),(1,.agg (blkA k zBs))]=some (wrA ⟨t,k,zBs⟩):=by kernel_rfl
theorem wpList_buildW1 {ops:Array Oper} {rest:List Oper} {o:Oper} {a:Act} {w:World} {Q:Exit→Act→World→Prop} (hgd:o.guard=none) (x y:Operand) (t k:Int) (ho:o.op=.build 73 #[(0,x),(1,y)]) (hx:a.eval x=.int .i64 t) (hy:a.eval y=.agg (blkA k zBs))
 (h:wpList Tryz.prog ops Q rest (a.put o.dst (.agg (wrA ⟨t,k,zBs⟩))) w):wpList Tryz.prog ops Q (o :: rest) a w :=
 wpList_plain hgd fun _ hK=>by
  unfold Oper.wp execOp
  have hb:=run_build (P:=Tryz.prog) w 73 #[(0,.int .i64 t),(1,.agg (blkA k zBs))] _ (builtW1 t k)
  simp only [ho,List.map_toArray,List.map_cons,List.map_nil,hx,hy,Sem.run_bind,hb,Result.andThen_ok]
  exact hK _ _ h
theorem wrA_setB (t k:Int) (bs:List Int) (j:Nat) (x:Int):(wrA ⟨t,k,bs⟩).setIfInBounds (2+j) (.int .u8 x)=wrA ⟨t,k,bs.set j x⟩:=by
 unfold wrA wrL blkL
 rw [show 2+j=j+1+1 by omega]
 simp [← set_Bs]
theorem padB_64 {b:List Int} (h:b.length=64):padB b=b.take 56:=by unfold padB;rw [h];simp
theorem taken_64 {lb:Int} {e s:Nat} {log:List (List Int)} (h:Taken lb e s log) {i:Nat} {b:List Int} (hi:i≤cnt log) (hb:log[i]?=some b):b.length=64:=by
 obtain ⟨hc,hm,hp⟩:=h
 have hlen:(readW log (cnt log)).length=cnt log:=readW_length _ _
 have h1:(log.take (1+cnt log))[i]?=some b:=by rw [List.getElem?_take,if_pos (by omega)];exact hb
 rw [← hp] at h1
 unfold putL at h1
 cases i with
 | zero=>injection h1 with h1;rw [← h1];exact sumd_length (by rw [headR_length,hlen];have:=hc.2.1;omega)
 | succ i =>
   rw [List.getElem?_cons_succ,List.getElem?_map] at h1
   obtain ⟨x,hx,rfl⟩:=Option.map_eq_some_iff.1 h1
   refine sumd_length ?_
   unfold bearB
   have:x.bs.length=56:=by
    have hx':=List.mem_of_getElem? hx
    unfold readW at hx'
    obtain ⟨j,_,rfl⟩:=List.mem_map.1 hx'
    exact padB_length _
   simp [be_length,this]
def VTR (base:Nat) (fa:Addr) (fd k q r vn:Nat) (y2:Int) (i:Nat) (v:Value) (w:World):Prop :=
 match i with
 | 0 | 10=>v=.slice (some fa) 64 fd
 | 1 | 4 | 11=>v=.int .i64 k
 | 2 | 5 | 12=>v=.int .i64 (3*(k:Int))
 | 3=>v=.int .i64 (q:Nat)
 | 6 | 13=>v=.int .i64 (r:Nat)
 | 7=>v=.slice (some (fa.add q)) 2 (fd-q)
 | 8=>v=.int .u64 vn
 | 9=>v=.int .i64 vn
 | 14=>v=.pointer (some (fa.add r))
 | 15=>v=.int .u8 y2
 | 16=>v=.int .i64 y2
 | 17=>v=.agg (blkA y2 zBs)
 | 18=>v=.agg (wrA ⟨vn,y2,zBs⟩)
 | 19=>∃ g,v=.pointer (some ⟨g,0,none⟩)∧w.heap[g]?=some (.cells (wrA zW) 73 (0,0))∧base≤g
 | _=>True
structure J2 (w w5 W:World):Prop where
 bel:Below w.heap.size w W
 bel5:Below w5.heap.size w5 W
theorem VTR.on {base:Nat} {fa:Addr} {fd k q r vn:Nat} {y2:Int} {j:Nat} {v:Value} {w w':World} (h:VTR base fa fd k q r vn y2 j v w) (hs:w.grownBy w' none):VTR base fa fd k q r vn y2 j v w':=by
 unfold VTR at *
 split <;> try exact h
 ·obtain ⟨g,h1,h2,h3⟩:=h
  exact ⟨g,h1,by rw [hs.block g (room_lt h2) (by simp)];exact h2,h3⟩
 ·trivial
set_option maxRecDepth 100000 in
set_option maxHeartbeats 6400000 in
theorem rtake_any (lb:Int) (e s:Nat) (A:Option Addr) (log:List (List Int)) (n c:Nat) (w:World) (hlb:0≤lb∧lb≤255) (he:e<4294967296) (hs:s<4294967296) (hn:log.length=n) (hl:n≤c) (hc:c≤9223372036854775807) (hok:TxOk log) (hy:Tx w A log) :
 Calls Tryz.prog 51 #[.int .u8 lb,.int .u32 e,.int .u32 s,.slice A n c] w fun en w'=>∃ v,en=.returned (.tuple #[v,.int .i64 (takeN lb e s log),.bool (decide (Taken lb e s log))])∧OwnW w' w.heap.size v (takeV lb e s log)∧Below w.heap.size w w':=by
 have HY:=Lib.hid hy
 have HN:=Lib.hid hn
 have HO:=Lib.hid hok
 have HNO:Hid (¬ Taken lb e s log→takeV lb e s log=[]∧takeN lb e s log=0∧decide (Taken lb e s log)=false):=fun h=>⟨(takeV_no h).1,(takeV_no h).2,decide_eq_false h⟩
 have HFIN:Hid (∀ W,Below w.heap.size w W→¬ Taken lb e s log→∃ v,Ending.returned (.tuple #[.slice none 0 0,.int .i64 0,.bool false])=.returned (.tuple #[v,.int .i64 (takeN lb e s log),.bool (decide (Taken lb e s log))])∧OwnW W w.heap.size v (takeV lb e s log)∧Below w.heap.size w W):=fun W hW h=>by
  obtain ⟨h1,h2,h3⟩:=HNO.out h
  exact ⟨.slice none 0 0,by rw [h2,h3];rfl,by rw [h1];exact OwnW.nil _ _,hW⟩
 clear hn hok hy HNO
 by_cases h0:n=0
 ·subst h0
  have HF:Hid (¬ Taken lb e s log):=fun h=>by have:=h.1.2.2;rw [HN.out] at this;omega
  go_enter Tryz.func51,Tryz.ntmps51
  go_wp2
  go_ret3
  exact HFIN.out _ (Below.refl _ _) HF.out
 obtain ⟨b0,hb0⟩:∃ b0,log[0]?=some b0:=⟨_,List.getElem?_eq_getElem (by rw [HN.out];omega)⟩
 have hhd:log.headD []=b0:=by
  cases log with
  | nil=>cases hb0
  | cons y l=>injection hb0
 obtain ⟨ad,F,fd,rfl,hc0,hfl,hfd,hby⟩:=HY.out 0 b0 hb0
 have ea:ad.add 0=ad:=by unfold Addr.add;simp
 rw [ea] at hc0
 have HB0:=Lib.hid (HO.out b0 (List.mem_of_getElem? hb0))
 have HHD:=Lib.hid hhd
 have HBY:=Lib.hid hby
 have hq0:((n:Int)==0)=false:=by simp;omega
 clear ea hby hhd hb0
 by_cases h64:b0.length=64
 ·have HL64:=Lib.hid h64
  rw [h64] at hc0 hfl
  obtain ⟨x10,hx10⟩:∃ x10,b0[10]?=some x10:=⟨_,List.getElem?_eq_getElem (by rw [h64];omega)⟩
  obtain ⟨fa,rfl,hc10⟩:=HBY.out 10 x10 hx10
  have hxb:=HB0.out x10 (List.mem_of_getElem? hx10)
  obtain ⟨cn,rfl⟩:∃ cn:Nat,x10=(cn:Int):=⟨x10.toNat,by omega⟩
  have HCN:Hid (cnt log=cn):=by unfold Hid cnt;rw [HHD.out,List.getD,hx10];simp
  rw [show (10:Nat)=9+1 from rfl,add_sum fa 9] at hc10
  obtain ⟨p1,hp1,HP1⟩:∃ p:Nat,1+(cn:Int)=p∧Hid (p=1+cn):=⟨1+cn,by omega,rfl⟩
  have wp1:IntKind.i64.wrap (p1:Int)=p1:=IntWalk.i64_in _ (by omega)
  clear hx10 h64
  by_cases h12:12<cn
  ·have HF:Hid (¬ Taken lb e s log):=fun h=>by have:=h.1.2.1;rw [HCN.out] at this;omega
   have hd1:decide (12<(cn:Int))=true:=decide_eq_true (by omega)
   go_enter Tryz.func51,Tryz.ntmps51
   go_wp2
   go_ret3
   exact HFIN.out _ (Below.refl _ _) HF.out
  have hd1:decide (12<(cn:Int))=false:=decide_eq_false (by omega)
  by_cases hcn:n<p1
  ·have HF:Hid (¬ Taken lb e s log):=fun h=>by have:=h.1.2.2;rw [HCN.out,HN.out] at this;have:=HP1.out;omega
   have hd2:decide ((n:Int)<p1)=true:=decide_eq_true (by omega)
   go_enter Tryz.func51,Tryz.ntmps51
   go_wp2
   go_ret3
   exact HFIN.out _ (Below.refl _ _) HF.out
  have hd2:decide ((n:Int)<p1)=false:=decide_eq_false (by omega)
  have HT:Hid (CanRead log):=⟨by rw [HHD.out];exact HL64.out,by rw [HCN.out];omega,by rw [HCN.out,HN.out];have:=HP1.out;omega⟩
  go_enter Tryz.func51,Tryz.ntmps51
  go_wp2
  go_loopw [12,13] (fun v i wr=>∃ k:Nat,i=.int .i64 k∧k≤cn∧OwnW wr w.heap.size v (readW log k)∧(∀ i b,i<k→log[1+i]?=some b→b.length=64)∧Below w.heap.size w wr) (fun _ i _=>cn-(intOf i).toNat)
  case atStart=>exact ⟨0,rfl,Nat.zero_le _,OwnW.nil _ _,fun i b h=>by omega,Below.refl _ _⟩
  case round =>
   obtain ⟨v,rfl⟩:∃ v,v=u12:=⟨u12,rfl⟩
   obtain ⟨k,rfl,hk,own,hall,hbel⟩:=hrel
   obtain ⟨w5,rfl⟩:∃ w5,w5=wr:=⟨wr,rfl⟩
   have HOW:=Lib.hid own
   have HALL:=Lib.hid hall
   have d10:=keepC hbel hc10
   clear own hall
   by_cases hlt:k<cn
   ·obtain ⟨bx,hbx⟩:∃ bx,log[1+k]?=some bx:=⟨_,List.getElem?_eq_getElem (by rw [HN.out];have:=HP1.out;omega)⟩
    obtain ⟨a',B,d,e',hcx,hbl,hd',hbyx⟩:=HY.out (1+k) bx hbx
    injection e' with e';subst e'
    obtain ⟨p,hp,HP⟩:∃ p:Nat,1+(k:Int)=p∧Hid (p=1+k):=⟨1+k,by omega,rfl⟩
    have wp:IntKind.i64.wrap (p:Int)=p:=IntWalk.i64_in _ (by omega)
    have hpn:(p:Int)<n:=by have:=HP1.out;omega
    have hcx':w5.cell? (ad.add p)=some (.slice B bx.length d):=by rw [HP.out];exact keepC hbel hcx
    have HBX:=Lib.hid hbx
    have HBYX:=Lib.hid hbyx
    clear hbyx hbx
    by_cases hb64:bx.length=64
    ·rw [hb64] at hcx' hbl
     have HB64:=Lib.hid hb64
     obtain ⟨q,hqq,HQ⟩:∃ q:Nat,11+3*(k:Int)=q∧Hid (q=11+3*k):=⟨11+3*k,by omega,rfl⟩
     obtain ⟨r,hrr,HR⟩:∃ r:Nat,13+3*(k:Int)=r∧Hid (r=13+3*k):=⟨13+3*k,by omega,rfl⟩
     have hq64:q≤44:=by omega
     have HRQ:Hid (r=q+2):=by unfold Hid;rw [HR.out,HQ.out];omega
     have hr46:r≤46:=by rw [HRQ.out];omega
     have hqr:q≤r:=by rw [HRQ.out];omega
     have w3:IntKind.i64.wrap (3*(k:Int))=3*(k:Int):=IntWalk.i64_in _ (by omega)
     have wq:IntKind.i64.wrap (q:Int)=q:=IntWalk.i64_in _ (by omega)
     have wr':IntKind.i64.wrap (r:Int)=r:=IntWalk.i64_in _ (by omega)
     obtain ⟨y2,hy2⟩:∃ y2,b0[r]?=some y2:=⟨_,List.getElem?_eq_getElem (by rw [HL64.out];omega)⟩
     have hyb:=HB0.out y2 (List.mem_of_getElem? hy2)
     have wy:IntKind.i64.wrap y2=y2:=IntWalk.i64_in _ (by omega)
     have hyg:b0.getD (13+3*k) 0=y2:=by rw [← HR.out,List.getD,hy2];rfl
     have hwat:wAt log k=⟨numV ((b0.drop q).take 2),y2,bx.take 56⟩:=by
      unfold wAt;rw [HHD.out,HQ.out,hyg,List.getD_eq_getElem?_getD (l:=log),HBX.out,← padB_64 hb64];rfl
     have hty:Byt w (some (fa.add q)) ((b0.drop q).take 2):=by
      intro i z hz
      rw [List.getElem?_take] at hz
      split at hz
      ·rw [List.getElem?_drop] at hz
       obtain ⟨a2,e2,h2⟩:=HBY.out _ _ hz
       injection e2 with e2;subst e2
       exact ⟨_,rfl,by rw [add_add'];exact h2⟩
      ·cases hz
     have hnv:=numV_lt 2 ((b0.drop q).take 2) (by rw [List.length_take,List.length_drop,HL64.out];omega) (fun z hz=>HB0.out z (List.mem_of_mem_drop (List.mem_of_mem_take hz)))
     have HNUM:Hid (∀ W,Below w.heap.size w W→Calls Tryz.prog 88 #[.slice (some (fa.add q)) 2 (fd-q)] W fun e w'=>e=.returned (.int .u64 (numV ((b0.drop q).take 2)))∧W=w'):=fun W hW =>
      rnum_any _ _ 2 _ W (by rw [List.length_take,List.length_drop,HL64.out];omega) (by omega) (fun z hz=>HB0.out z (List.mem_of_mem_drop (List.mem_of_mem_take hz))) (hty.keep hW)
     have HYC:Hid (∀ W,Below w.heap.size w W→W.cell? (fa.add r)=some (.int .u8 y2)):=fun W hW=>by
      obtain ⟨a2,e2,h2⟩:=HBY.out _ _ hy2
      injection e2 with e2;subst e2
      exact keepC hW h2
     have HWAT:=Lib.hid hwat
     clear hwat hty hy2 hyg
     generalize numV ((b0.drop q).take 2)=vn at *
     have wv:IntKind.i64.wrap (vn:Int)=vn:=IntWalk.i64_in _ (by omega)
     have hq64a:(q:Int)≤r:=by omega
     have hr0:(0:Int)≤r:=by omega
     have hr64a:(r:Int)≤fd:=by omega
     have hr64b:(r:Int)<64:=by omega
     have hfq:¬ fd=q:=by omega
     have hrq2:r-q=2:=by rw [HRQ.out];omega
     go_upto_region 10 with fail
     have grefl:∀ W:World,W.grownBy W none:=fun W=>World.grownBy.refl W _
     refine wp_region_rg (VTR w5.heap.size fa fd k q r vn y2) (J2 w w5) (fun w w'=>w.grownBy w' none) (by kernel_rfl) (by kernel_rfl) (fun j v w w' h hg=>h.on hg) ⟨hbel.drew,(Below.refl _ _).drew⟩ ?_
     simp only [RAll]
     refine ⟨?_,?_,?_,?_,?_,?_,?_,?_,?_,?_,?_,?_,?_,?_,?_,?_,?_,?_,?_,?_,?_⟩
     ·refine RStep.of rfl fun T W hag hJ hd=>?_
      have e11:T.getD 11 undef=_:=(agree_at hag 11 (by kernel_rfl)).trans rfl
      clear hag hd
      go_simp
      exact ⟨_,rfl,rfl⟩
     ·refine RStep.of rfl fun T W hag hJ hd=>?_
      have e13:T.getD 13 undef=_:=(agree_at hag 13 (by kernel_rfl)).trans rfl
      clear hag hd
      go_simp
      exact ⟨_,rfl,rfl⟩
     ·refine RStep.of rfl fun T W hag hJ hd=>?_
      have d69:T.getD 69 undef=_:=hd ⟨1,.data⟩ (by simp) rfl _ rfl
      clear hag hd
      go_simp
      exact ⟨_,rfl,rfl⟩
     ·refine RStep.of rfl fun T W hag hJ hd=>?_
      have d70:T.getD 70 undef=_:=hd ⟨2,.data⟩ (by simp) rfl _ rfl
      clear hag hd
      go_simp
      exact ⟨_,rfl,rfl⟩
     ·refine RStep.of rfl fun T W hag hJ hd=>?_
      have e13:T.getD 13 undef=_:=(agree_at hag 13 (by kernel_rfl)).trans rfl
      clear hag hd
      go_simp
      exact ⟨_,rfl,rfl⟩
     ·refine RStep.of rfl fun T W hag hJ hd=>?_
      have d72:T.getD 72 undef=_:=hd ⟨4,.data⟩ (by simp) rfl _ rfl
      clear hag hd
      go_simp
      exact ⟨_,rfl,rfl⟩
     ·refine RStep.of rfl fun T W hag hJ hd=>?_
      have d73:T.getD 73 undef=_:=hd ⟨5,.data⟩ (by simp) rfl _ rfl
      clear hag hd
      go_simp
      exact ⟨_,rfl,rfl⟩
     ·refine RStep.of rfl fun T W hag hJ hd=>?_
      have d68:T.getD 68 undef=_:=hd ⟨0,.data⟩ (by simp) rfl _ rfl
      have d71:T.getD 71 undef=_:=hd ⟨3,.data⟩ (by simp) rfl _ rfl
      have d74:T.getD 74 undef=_:=hd ⟨6,.data⟩ (by simp) rfl _ rfl
      clear hag hd
      go_simp
      exact ⟨_,rfl,rfl⟩
     ·refine RStep.of rfl fun T W hag hJ hd=>?_
      have d75:T.getD 75 undef=_:=hd ⟨7,.data⟩ (by simp) rfl _ rfl
      clear hag hd
      go_simp
      refine (HNUM.out W hJ.bel).mono ?_;rintro e w' ⟨rfl,rfl⟩
      exact ⟨_,rfl,rfl,hJ,grefl _⟩
     ·refine RStep.of rfl fun T W hag hJ hd=>?_
      have d76:T.getD 76 undef=_:=hd ⟨8,.data⟩ (by simp) rfl _ rfl
      clear hag hd
      go_simp
      exact ⟨_,rfl,rfl⟩
     ·refine RStep.of rfl fun T W hag hJ hd=>?_
      have e11:T.getD 11 undef=_:=(agree_at hag 11 (by kernel_rfl)).trans rfl
      clear hag hd
      go_simp
      exact ⟨_,rfl,rfl⟩
     ·refine RStep.of rfl fun T W hag hJ hd=>?_
      have e13:T.getD 13 undef=_:=(agree_at hag 13 (by kernel_rfl)).trans rfl
      clear hag hd
      go_simp
      exact ⟨_,rfl,rfl⟩
     ·refine RStep.of rfl fun T W hag hJ hd=>?_
      have d79:T.getD 79 undef=_:=hd ⟨11,.data⟩ (by simp) rfl _ rfl
      clear hag hd
      go_simp
      exact ⟨_,rfl,rfl⟩
     ·refine RStep.of rfl fun T W hag hJ hd=>?_
      have d80:T.getD 80 undef=_:=hd ⟨12,.data⟩ (by simp) rfl _ rfl
      clear hag hd
      go_simp
      exact ⟨_,rfl,rfl⟩
     ·refine RStep.of rfl fun T W hag hJ hd=>?_
      have d78:T.getD 78 undef=_:=hd ⟨10,.data⟩ (by simp) rfl _ rfl
      have d81:T.getD 81 undef=_:=hd ⟨13,.data⟩ (by simp) rfl _ rfl
      clear hag hd
      go_simp
      exact ⟨_,rfl,rfl⟩
     ·refine RStep.of rfl fun T W hag hJ hd=>?_
      have d82:T.getD 82 undef=_:=hd ⟨14,.data⟩ (by simp) rfl _ rfl
      have fct0:=HYC.out W hJ.bel
      clear hag hd
      go_simp
      exact ⟨_,rfl,rfl⟩
     ·refine RStep.of rfl fun T W hag hJ hd=>?_
      have d83:T.getD 83 undef=_:=hd ⟨15,.data⟩ (by simp) rfl _ rfl
      clear hag hd
      go_simp
      exact ⟨_,rfl,rfl⟩
     ·refine RStep.of rfl fun T W hag hJ hd=>?_
      have d84:T.getD 84 undef=_:=hd ⟨16,.data⟩ (by simp) rfl _ rfl
      have ev84:(⟨T,[]⟩:Act).eval (.tmp 84)=.int .i64 y2:=d84
      clear hag hd
      have hb:=run_build (P:=Tryz.prog) W 71 #[(0,.int .i64 y2)] _ (built24k y2)
      refine wp_run (v:=.agg (blkA y2 zBs)) (w':=W) ?_ ⟨_,rfl,rfl,hJ,World.grownBy.refl _ _⟩
      unfold execOp
      simp only [List.map_toArray,List.map_cons,List.map_nil,ev84,Sem.run_bind,hb,Result.andThen_ok,Sem.run_pure]
     ·refine RStep.of rfl fun T W hag hJ hd=>?_
      have d77:T.getD 77 undef=_:=hd ⟨9,.data⟩ (by simp) rfl _ rfl
      have d85:T.getD 85 undef=_:=hd ⟨17,.data⟩ (by simp) rfl _ rfl
      have ev77:(⟨T,[]⟩:Act).eval (.tmp 77)=.int .i64 vn:=d77
      have ev85:(⟨T,[]⟩:Act).eval (.tmp 85)=.agg (blkA y2 zBs):=d85
      clear hag hd
      have hb:=run_build (P:=Tryz.prog) W 73 #[(0,.int .i64 vn),(1,.agg (blkA y2 zBs))] _ (builtW1 vn y2)
      refine wp_run (v:=.agg (wrA ⟨vn,y2,zBs⟩)) (w':=W) ?_ ⟨_,rfl,rfl,hJ,World.grownBy.refl _ _⟩
      unfold execOp
      simp only [List.map_toArray,List.map_cons,List.map_nil,ev77,ev85,Sem.run_bind,hb,Result.andThen_ok,Sem.run_pure]
     ·refine RStep.of rfl fun T W hag hJ hd=>?_
      clear hag hd
      obtain ⟨i0,hi,hz0,hz1,hz2⟩:=info_parts infoW
      refine wp_alloc_of 73 rfl i0 _ hi hz0 ?_
      exact ⟨_,rfl,⟨W.heap.size,rfl,heap_alloc_new W _,hJ.bel5.size⟩,⟨hJ.bel.alloc hJ.bel.size _,hJ.bel5.alloc hJ.bel5.size _⟩,World.grownBy_alloc W _ _⟩
     ·refine RLast.of rfl fun T W hag hJ hd=>?_
      obtain ⟨g,(d14:T.getD 14 undef=_),hg,hgw⟩:=hd 19 _ (by simp) rfl
      have d86:T.getD 86 undef=_:=hd 18 _ (by simp) rfl
      obtain ⟨f,hf,hT⟩:=agree_fn hag
      have h14:=(hf 14).trans d14
      have h86:=(hf 86).trans d86
      have HJ:=Lib.hid hJ
      clear hag hd d14 d86 hJ hf
      rw [hT]
      clear hT
      simp only [List.filterMap_cons,List.filterMap_nil,List.foldl_cons,List.foldl_nil,List.setIfInBounds_toArray,List.set_cons_succ,List.set_cons_zero,h14,h86]
      refine wp_store_row 73 (.tmp 14) (.tmp 86) rfl g _ rfl rfl _ _ hg (by rw [wrA_size zBs_len];exact sizeW) (by rw [wrA_size zW_len,wrA_size (x:=⟨vn,y2,zBs⟩) zBs_len]) (wrA_one _) ?_
      have hnew:=setRow_heap W g _ (wrA ⟨(vn:Int),y2,zBs⟩) 73 (0,0) hg
      have B6:=below_setRow HJ.out.bel5 hgw (wrA ⟨(vn:Int),y2,zBs⟩)
      go_wp2_with fail
      generalize W.setRow g (wrA ⟨(vn:Int),y2,zBs⟩)=W6 at *
      have HBT:Hid ((bx.take 56).length=56):=by unfold Hid;rw [List.length_take,HB64.out];rfl
      have HG:=Lib.hid hgw
      clear hg hgw HJ h14 h86 hyb d10
      go_loopw [15] (fun i wq=>∃ j:Nat,i=.int .i64 j∧j≤56∧wq.heap[g]?=some (.cells (wrA ⟨(vn:Int),y2,fillBs (bx.take 56) j⟩) 73 (0,0))∧Below w5.heap.size w5 wq) (fun i _=>56-(intOf i).toNat)
      case atStart=>exact ⟨0,rfl,Nat.zero_le _,hnew,B6⟩
      case round =>
       obtain ⟨j,rfl,hj,hblk,hb6⟩:=hrel
       have HBK:=Lib.hid hblk
       clear hblk hnew B6
       obtain ⟨w6,rfl⟩:∃ w6,w6=wr:=⟨wr,rfl⟩
       by_cases hj56:j<56
       ·obtain ⟨z,hz⟩:∃ z,(bx.take 56)[j]?=some z:=⟨_,List.getElem?_eq_getElem (by rw [HBT.out];exact hj56)⟩
        have hz':bx[j]?=some z:=by rw [List.getElem?_take,if_pos hj56] at hz;exact hz
        obtain ⟨ba,rfl,hcz⟩:=(HBYX.out.keep (hbel.trans (hb6.mono hbel.size))) j z hz'
        have hcx6:=keepC hb6 hcx'
        obtain ⟨u,hu⟩:∃ u,(wrA ⟨(vn:Int),y2,fillBs (bx.take 56) j⟩)[2+j]?=some u:=⟨_,Array.getElem?_eq_getElem (by rw [wrA_size (x:=⟨(vn:Int),y2,fillBs (bx.take 56) j⟩) (fillBs_len HBT.out hj)];omega)⟩
        have cg:w6.cell? ⟨g,2+j,none⟩=some u:=(blk_cell HBK.out _).trans hu
        have fg:w6.frozen? ⟨g,2+j,none⟩=false:=blk_free HBK.out _
        have HZ:=Lib.hid hz
        have hj64:(j:Int)<64:=by omega
        clear hz hz' hu
        go_wp2
        go_roundw
        case rel =>
         refine ⟨j+1,by go_num,by omega,?_,hb6.setCell HG.out _⟩
         rw [heap_setCell_same' HBK.out,wrA_setB,fillBs_set HBT.out hj56 HZ.out]
        case measure=>simp [intOf];omega
       ·obtain rfl:j=56:=by omega
        rw [fillBs_all HBT.out] at HBK
        have OW6:=ownB HOW.out hb6
        have bel6:=keepB hbel hb6
        have HW56:=(wAt_ok HO.out k).len
        have HBK2:Hid (w6.heap[g]?=some (.cells (wrA (wAt log k)) 73 (0,0))):=by unfold Hid;rw [HWAT.out];exact HBK.out
        have hge56:¬ ((56:Int)<56):=by omega
        clear HBK hcx'
        go_wp2_with (first
         | (refine wpList_loadW rfl (.tmp 14) rfl g rfl (wAt log k) HW56 HBK2.out ?_)
         | (refine wpList_oneW rfl (.tmp 104) rfl (wAt log k) HW56 rfl ?_)
         | (at_builtin
            refine wpList_app_wr rfl (.tmp 103) (.tmp 105) rfl w.heap.size v (readW log k) rfl (OW6.alloc _) w6.heap.size (wAt log k) HW56 rfl (wrAt_blk (heap_alloc_new _ _)) (by rw [readW_length];omega) (by rw [size_alloc'];have:=bel6.size;omega) ?_
            intro v7 w7 h7 hb7
            have bel7:Below w.heap.size w w7:=(bel6.alloc bel6.size _).trans hb7
            have OW7:OwnW w7 w.heap.size v7 (readW log (k+1)):=by rw [readW_snoc];exact h7
            clear h7 hb7 OW6 bel6))
        go_roundw
        case rel =>
         refine ⟨k+1,by go_num,by omega,OW7,fun i b hi hb=>?_,bel7⟩
         by_cases e:i=k
         ·subst e;rw [HBX.out] at hb;injection hb with hb;rw [← hb];exact HB64.out
         ·exact HALL.out i b (by omega) hb
        case measure=>simp [intOf];omega
    ·have HNT:Hid (¬ Taken lb e s log):=fun h=>hb64 (taken_64 h (i:=1+k) (by rw [HCN.out];omega) HBX.out)
     generalize bx.length=bl at *
     have hq6:((bl:Int) != 64)=true:=by simp;omega
     go_wp2
     go_ret3
     exact HFIN.out _ hbel HNT.out
   ·obtain rfl:k=cn:=by omega
    have hge:¬ ((k:Int)<k):=by omega
    have hok1:=readW_ok HO.out k
    obtain ⟨Av,dv,rfl,hdv,hdv2,hwv⟩:=HOW.out.wrs hok1.len
    rw [readW_length] at hdv HOW ⊢
    have HOK1:=Lib.hid hok1
    have HP:=Lib.hid (rput_any lb e s Av (readW log k) k dv w5 hlb he hs (readW_length _ _) hdv hdv2 hok1 hwv)
    have HY1:=Lib.hid (HY.out.keep hbel)
    have HRL:=Lib.hid (readW_length log k)
    clear hok1 hwv
    generalize hlv:readW log k=lv at *
    have HLV:=Lib.hid hlv
    clear hlv
    by_cases hmay:MayL lv
    ·have HPX:Hid (putX lb e s lv=putL lb e s lv):=by unfold Hid putX;rw [if_pos hmay]
     have HMAY:=Lib.hid hmay
     rw [decide_eq_true hmay] at HP
     have HTX:=Lib.hid (putL_txOk e s hlb hmay HOK1.out)
     clear hmay
     go_wp2_with fail
     refine HP.out.mono ?_
     rintro en w2 ⟨v2,rfl,ot2,hb2⟩
     rw [HPX.out] at ot2
     obtain ⟨A2,d2,rfl,hd2,hd22,htx2⟩:=ot2.tx
     have HPL:Hid ((putL lb e s lv).length=p1):=by unfold Hid;rw [putL_length,HRL.out,HP1.out]
     rw [HPL.out] at hd2 ⊢
     have HY2:=Lib.hid (HY1.out.keep hb2)
     have HX2:=Lib.hid htx2
     have HOW2:=Lib.hid (show OwnW w2 w.heap.size (.slice Av k dv) lv from ownB HOW.out hb2)
     have HBL2:=Lib.hid (keepB hbel hb2)
     have HTK:Hid (putL lb e s lv=log.take p1→Taken lb e s log):=fun hq=>⟨HT.out,by rw [HCN.out,HLV.out];exact HMAY.out,by rw [HCN.out,HLV.out,← HP1.out];exact hq⟩
     have HTN:Hid (Taken lb e s log→putL lb e s lv=log.take p1):=fun h=>by have:=h.2.2;rwa [HCN.out,HLV.out,← HP1.out] at this
     have hp1c:p1≤n:=by omega
     clear ot2 htx2 hb2 HP hbel d10
     go_wp2_with fail
     go_loopw [18] (fun i wq=>∃ j:Nat,i=.int .i64 j∧j≤p1∧(putL lb e s lv).take j=log.take j∧Below w2.heap.size w2 wq) (fun i _=>p1-(intOf i).toNat)
     case atStart=>exact ⟨0,rfl,Nat.zero_le _,rfl,Below.refl _ _⟩
     case round =>
      obtain ⟨j,rfl,hj,hpre,hbq⟩:=hrel
      have HPRE:=Lib.hid hpre
      clear hpre
      obtain ⟨w6,rfl⟩:∃ w6,w6=wr:=⟨wr,rfl⟩
      by_cases hjp:j<p1
      ·obtain ⟨x,hx⟩:∃ x,(putL lb e s lv)[j]?=some x:=⟨_,List.getElem?_eq_getElem (by rw [HPL.out];exact hjp)⟩
       obtain ⟨y,hy⟩:∃ y,log[j]?=some y:=⟨_,List.getElem?_eq_getElem (by rw [HN.out];omega)⟩
       obtain ⟨a2,X1,dx1,rfl,cx,_,_,byx⟩:=(HX2.out.keep hbq) j x hx
       obtain ⟨a3,Y1,dy1,e3,cy,_,_,byy⟩:=(HY2.out.keep hbq) j y hy
       injection e3 with e3;subst e3
       have k1:=fun q=>(show (w6.drewN q).cell? _=_ from cx)
       have k2:=fun q=>(show (w6.drewN q).cell? _=_ from cy)
       have s1:=fun q=>(conv_any (c:=dx1) (byx.drew q) rfl:_=_)
       have s2:=fun q=>(conv_any (c:=dy1) (byy.drew q) rfl:_=_)
       have HSB:=Lib.hid (str_beq (HTX.out x (List.mem_of_getElem? hx)) (HO.out y (List.mem_of_getElem? hy)))
       have H1:=Lib.hid hx
       have H2:=Lib.hid hy
       have hj1:(j:Int)<p1:=by omega
       have hj2:(j:Int)<n:=by omega
       have hj0:(0:Int)≤j:=by omega
       have hj3:j<p1:=hjp
       have hj4:j<n:=by omega
       clear cx cy byx byy hx hy
       by_cases hq:x=y
       ·have HQ:=Lib.hid hq
        have hsq:=HSB.out
        rw [decide_eq_true hq] at hsq
        clear HSB hq
        generalize strOfNums x=z1 at *
        generalize strOfNums y=z2 at *
        generalize x.length=xl at *
        generalize y.length=yl at *
        go_upto_region 22 with fail
        go_quiet (fail)
        have hbq2:=keepB hbq (bdn (Below.refl w6.heap.size w6) nq)
        clear k1 k2 s1 s2
        generalize w6.drewN nq=w7 at *
        go_wp2
        go_roundw
        case rel=>exact ⟨j+1,by go_num,by omega,by rw [take_snoc' H1.out,take_snoc' H2.out,HPRE.out,HQ.out],hbq2⟩
        case measure=>simp [intOf];omega
       ·have HNT:Hid (¬ Taken lb e s log):=fun h=>hq (by
         have h1:=HTN.out h
         have h2:=H1.out
         rw [h1,List.getElem?_take,if_pos hjp,H2.out] at h2
         injection h2 with h2;exact h2.symm)
        have hsq:=HSB.out
        rw [decide_eq_false hq] at hsq
        clear HSB hq
        generalize strOfNums x=z1 at *
        generalize strOfNums y=z2 at *
        generalize x.length=xl at *
        generalize y.length=yl at *
        go_upto_region 22 with fail
        go_quiet (fail)
        have hbq2:=keepB hbq (bdn (Below.refl w6.heap.size w6) nq)
        clear k1 k2 s1 s2
        generalize w6.drewN nq=w7 at *
        go_wp2
        go_ret3
        exact HFIN.out _ (keepB HBL2.out hbq2) HNT.out
      ·obtain rfl:j=p1:=by omega
       have hge2:¬ ((j:Int)<j):=by omega
       have hTk:Taken lb e s log:=HTK.out (by
        have h:=HPRE.out
        rwa [List.take_of_length_le (by rw [HPL.out];omega)] at h)
       have HTV:=Lib.hid (takeV_yes hTk)
       have HTT:=Lib.hid hTk
       clear hTk
       go_wp2
       go_ret3
       exact ⟨_,by rw [HTV.out.2,decide_eq_true HTT.out,HCN.out,← HP1.out];rfl,by rw [HTV.out.1,HCN.out,HLV.out];exact ownB HOW2.out hbq,keepB HBL2.out hbq⟩
    ·have HNT:Hid (¬ Taken lb e s log):=fun h=>hmay (by have:=h.2.1;rwa [HCN.out,HLV.out] at this)
     rw [decide_eq_false hmay] at HP
     clear hmay
     go_wp2_with fail
     refine HP.out.mono ?_
     rintro en w2 ⟨v2,rfl,ot2,hb2⟩
     have HBL2:=Lib.hid (keepB hbel hb2)
     go_wp2_with fail
     go_ret3
     exact HFIN.out _ HBL2.out HNT.out
 ·have HNT:Hid (¬ Taken lb e s log):=fun h=>h64 (by have:=h.1.1;rwa [HHD.out] at this)
  generalize b0.length=bl at *
  have hq1:((bl:Int) != 64)=true:=by simp;omega
  go_enter Tryz.func51,Tryz.ntmps51
  go_wp2
  go_ret3
  exact HFIN.out _ (Below.refl _ _) HNT.out
theorem Byt.keep' {w W:World} {A:Option Addr} {xs:List Int} (h:Byt w A xs) (hb:Below w.heap.size w W):Byt W A xs:=h.keep hb
set_option maxRecDepth 100000 in
set_option maxHeartbeats 1600000 in
theorem anchor_any (lb:Int) (e:Nat) (w:World) (hlb:0≤lb∧lb≤255) (he:e<4294967296) :
 Calls Tryz.prog 79 #[.int .u8 lb,.int .u32 e] w fun en w'=>∃ v,en=.returned v∧w'.ownsRow w.heap.size 5 1 v 64 (Bs (anchorB lb e))∧Below w.heap.size w w':=by
 have kc:=fun (w:World) (C:Array Value) (n c:Nat)=>Lib.run_convert_bytes_const (P:=Tryz.prog) w 48 5 C n c Tryz.underlying48 Tryz.underlying5
 have HB:Hid (∀ o,Below w.heap.size w (w.alloc o)):=fun o=>(Below.refl _ _).alloc (Nat.le_refl _) _
 go_enter Tryz.func79,Tryz.ntmps79
 go_upto_region 2 with (first
  | (at_builtin
     refine wpList_app_any _ rfl (.tmp 7) (.tmp 9) rfl w.heap.size _ 2 [65,78] none rfl (Or.inr ⟨rfl,w.heap.size,0,rfl,rfl,(byt_new rfl).alloc _⟩) (some ⟨w.heap.size+1,0,none⟩) 1 1 [lb] rfl (byt_blk (by rw [← size_alloc' w];exact heap_alloc_new _ _) rfl) rfl (by omega) (by omega) (by rw [size_alloc',size_alloc'];omega) ?_
     intro v1 w1 h1 hg1 _
     have B1:Below w.heap.size w w1:=((HB.out _).alloc (HB.out _).size _).grown hg1 ((HB.out _).alloc (HB.out _).size _).size (fun j hj=>by cases hj)
     have own1:w1.ownsRow w.heap.size 5 1 v1 3 (Bs [65,78,lb]):=h1
     clear h1 hg1))
 go_wp2_with fail
 refine (num_any w1 w.heap.size v1 3 _ e 4 own1 B1.size (by omega) (by omega) (by omega) he).mono ?_
 rintro en w2 ⟨v2,rfl,own2,hb2,_⟩
 have B2:=B1.trans hb2
 have hl7:([65,78,lb]++be e 4).length=7:=by simp [be_length]
 obtain ⟨A2,d2,rfl,_,_,hy2⟩:=byt_own own2 hl7
 rw [hl7]
 have HAB:Hid (AllB ([65,78,lb]++be e 4)):=AllB.append (fun x hx=>by
  simp only [List.mem_cons,List.not_mem_nil,or_false] at hx
  rcases hx with rfl | rfl | rfl <;> omega) (be_allB _ _)
 clear own1 B1 hb2
 go_wp2_with fail
 refine (summed_any A2 _ 7 d2 w2 hl7 (by omega) HAB.out hy2).mono ?_
 rintro en w3 ⟨v3,rfl,own3,hb3⟩
 go_wp2_with fail
 go_ret
 exact ⟨v3,rfl,own3.mono B2.size,keepB B2 hb3⟩
set_option maxRecDepth 100000 in
set_option maxHeartbeats 1600000 in
theorem ranchor_any (lb:Int) (e:Nat) (w:World) (hlb:0≤lb∧lb≤255) (he:e<4294967296) :
 Calls Tryz.prog 43 #[.int .u8 lb,.int .u32 e] w fun en w'=>∃ v,en=.returned v∧w'.ownsRow w.heap.size 5 1 v 64 (Bs (anchorB lb e))∧Below w.heap.size w w':=by
 have own0:=own_new w w.heap.size 5 3 #[.int .u8 65,.int .u8 78,.int .u8 lb] (Bs [65,78,lb]) (Nat.le_refl _) rfl (by decide) rfl
 have B0:Below w.heap.size w (w.alloc (Obj.cells #[.int .u8 65,.int .u8 78,.int .u8 lb] 5)):=(Below.refl _ _).alloc (Nat.le_refl _) _
 have we:IntKind.u64.wrap (e:Int)=e:=IntWalk.u64_in _ (by omega)
 go_enter Tryz.func43,Tryz.ntmps43
 go_wp2_with fail
 generalize w.alloc (Obj.cells #[.int .u8 65,.int .u8 78,.int .u8 lb] 5)=W0 at *
 refine (high1_any e 4 W0 (by omega) (by omega)).mono ?_
 rintro en w1 ⟨v1,rfl,own1,hb1⟩
 obtain ⟨A1,d1,rfl,_,_,hy1⟩:=byt_own own1 (be_length e 4)
 rw [be_length]
 have own0':=ownB own0 hb1
 have B1:=keepB B0 hb1
 clear own0 own1
 go_wp2_with (first
  | (at_builtin
     refine wpList_app_byt _ rfl (.tmp 6) (.tmp 9) rfl w.heap.size _ 3 [65,78,lb] rfl own0' A1 4 d1 (be e 4) rfl hy1 (be_length _ _) (by omega) B1.size ?_
     intro v2 w2 h2 hg2 _
     have B2:Below w.heap.size w w2:=B1.grown hg2 B1.size (fun j hj=>(own0'.lt j hj).1)
     have own2:w2.ownsRow w.heap.size 5 1 v2 7 (Bs ([65,78,lb]++be e 4)):=h2
     clear h2 hg2 own0' B1 hy1))
 have hl7:([65,78,lb]++be e 4).length=7:=by simp [be_length]
 obtain ⟨A2,d2,rfl,_,_,hy2⟩:=byt_own own2 hl7
 rw [hl7]
 have HAB:Hid (AllB ([65,78,lb]++be e 4)):=AllB.append (fun x hx=>by
  simp only [List.mem_cons,List.not_mem_nil,or_false] at hx
  rcases hx with rfl | rfl | rfl <;> omega) (be_allB _ _)
 refine (rfilled_any A2 _ 7 d2 w2 hl7 (by omega) (by omega) HAB.out hy2).mono ?_
 rintro en w3 ⟨v3,rfl,own3,hb3⟩
 go_wp2_with fail
 go_ret
 exact ⟨v3,rfl,own3.mono B2.size,keepB B2 hb3⟩
def anE (xs:List Int):Nat:=numV ((xs.drop 3).take 4)
def TakenA (lb:Int) (xs:List Int):Prop:=xs.length=64∧anE xs≠4294967295∧anchorB lb (anE xs)=xs
instance (lb:Int) (xs:List Int):Decidable (TakenA lb xs):=by unfold TakenA;infer_instance
def takeA (lb:Int) (xs:List Int):Nat:=if TakenA lb xs then anE xs else 0
theorem anE_lt {xs:List Int} (h:AllB xs) (hl:xs.length=64):anE xs<4294967296:=by
 have:=numV_lt 4 ((xs.drop 3).take 4) (by rw [List.length_take,List.length_drop,hl];rfl) (fun x hx=>h x (List.mem_of_mem_drop (List.mem_of_mem_take hx)))
 unfold anE;omega
theorem byt_cut {w:World} {a:Addr} {xs:List Int} (h:Byt w (some a) xs) (q m:Nat):Byt w (some (a.add q)) ((xs.drop q).take m):=by
 intro i z hz
 rw [List.getElem?_take] at hz
 split at hz
 ·rw [List.getElem?_drop] at hz
  obtain ⟨a2,e2,h2⟩:=h _ _ hz
  injection e2 with e2;subst e2
  exact ⟨_,rfl,by rw [add_add'];exact h2⟩
 ·cases hz
set_option maxRecDepth 100000 in
set_option maxHeartbeats 3200000 in
theorem takea_any (lb:Int) (A:Option Addr) (xs:List Int) (n c:Nat) (w:World) (hlb:0≤lb∧lb≤255) (hn:xs.length=n) (hl:n≤c) (hc:c≤9223372036854775807) (hB:AllB xs) (hy:Byt w A xs) :
 Calls Tryz.prog 84 #[.int .u8 lb,.slice A n c] w fun en w'=>en=.returned (.tuple #[.int .u32 (takeA lb xs),.bool (decide (TakenA lb xs))])∧Below w.heap.size w w':=by
 have HY:=Lib.hid hy
 have HN:=Lib.hid hn
 have HB:=Lib.hid hB
 have HNO:Hid (¬ TakenA lb xs→takeA lb xs=0∧decide (TakenA lb xs)=false):=fun h=>⟨by unfold takeA;rw [if_neg h],decide_eq_false h⟩
 clear hn hB hy
 go_enter Tryz.func84,Tryz.ntmps84
 go_wp2
 refine wp_scope1e (fun a' w'=>Hid (Below w.heap.size w w'∧¬ TakenA lb xs)∧∃ u0 u1 u2 u3 u4 u5 u6 u7 u8 u9 u10 u11 u12 u13 u14 u15 u16 u17 u18 u19 u20 u21:Value,a'={ tmps:=#[u0,u1,u2,u3,u4,u5,u6,u7,u8,u9,u10,u11,u12,u13,u14,u15,u16,u17,u18,u19,u20,u21],defers:=[] }) (fun _ _=>0) rfl ?_ ?_
 ·intro _
  by_cases h64:n=64
  ·subst h64
   obtain ⟨x0,hx0⟩:∃ x0,xs[0]?=some x0:=⟨_,List.getElem?_eq_getElem (by rw [HN.out];omega)⟩
   obtain ⟨ad,rfl,_⟩:=HY.out 0 x0 hx0
   have hlt:=anE_lt HB.out HN.out
   have HNUM:=Lib.hid (numof_any (some (ad.add 3)) ((xs.drop 3).take 4) 4 (c-3) w (by rw [List.length_take,List.length_drop,HN.out];rfl) (by omega) (fun x hx=>HB.out x (List.mem_of_mem_drop (List.mem_of_mem_take hx))) (byt_cut HY.out 3 4))
   have HT:Hid (TakenA lb xs↔anE xs≠4294967295∧anchorB lb (anE xs)=xs):=⟨fun h=>h.2,fun h=>⟨HN.out,h⟩⟩
   have HTA:Hid (TakenA lb xs→takeA lb xs=anE xs):=fun h=>by unfold takeA;rw [if_pos h]
   change Hid (Calls _ _ _ _ (fun e w'=>e=.returned (.int .u32 (anE xs))∧w=w')) at HNUM
   generalize anE xs=ev at *
   have ha3:ad.add 3=⟨ad.block,ad.off+3,none⟩:=add_sum ad 2
   rw [ha3] at HNUM
   have hc3:¬ c=3:=by omega
   clear hx0 ha3
   by_cases hlast:ev=4294967295
   ·have HNT:Hid (¬ TakenA lb xs):=fun h=>(HT.out.1 h).1 hlast
    have hq:((ev:Int)==4294967295)=true:=by simp;omega
    clear hlast
    go_wp2_with fail
    refine HNUM.out.mono ?_
    rintro en w1 ⟨rfl,rfl⟩
    go_wp2_with fail
    go_step3
    exact ⟨rfl,⟨Below.refl _ _,HNT.out⟩,_,_,_,_,_,_,_,_,_,_,_,_,_,_,_,_,_,_,_,_,_,_, rfl⟩
   ·have hq:((ev:Int)==4294967295)=false:=by simp;omega
    have HL:=Lib.hid hlast
    clear hlast
    go_wp2_with fail
    refine HNUM.out.mono ?_
    rintro en w1 ⟨rfl,rfl⟩
    go_wp2_with fail
    refine (anchor_any lb ev w hlb hlt).mono ?_
    rintro en w2 ⟨v2,rfl,own2,hb2⟩
    obtain ⟨A2,d2,rfl,_,_,hy2⟩:=byt_own own2 (anchorB_length lb ev)
    rw [anchorB_length]
    have HE:=Lib.hid (equal_any A2 (some ad) (anchorB lb ev) xs 64 64 d2 c w2 (anchorB_length lb ev) HN.out (anchorB_allB ev hlb) HB.out hy2 (HY.out.keep hb2))
    clear own2 hy2
    by_cases heq:anchorB lb ev=xs
    ·have HYES:Hid (TakenA lb xs):=HT.out.2 ⟨HL.out,heq⟩
     rw [decide_eq_true heq] at HE
     clear heq
     go_wp2_with fail
     refine HE.out.mono ?_
     rintro en w3 ⟨rfl,rfl⟩
     go_wp2_with fail
     try simp only [Exit.jump]
     go_ret2
     exact ⟨by rw [HTA.out HYES.out,decide_eq_true HYES.out];rfl,hb2⟩
    ·have HNT:Hid (¬ TakenA lb xs):=fun h=>heq (HT.out.1 h).2
     rw [decide_eq_false heq] at HE
     clear heq
     go_wp2_with fail
     refine HE.out.mono ?_
     rintro en w3 ⟨rfl,rfl⟩
     go_wp2_with fail
     go_step3
     exact ⟨rfl,⟨hb2,HNT.out⟩,_,_,_,_,_,_,_,_,_,_,_,_,_,_,_,_,_,_,_,_,_,_, rfl⟩
  ·have HNT:Hid (¬ TakenA lb xs):=fun h=>h64 (by rw [← HN.out];exact h.1)
   go_wp2
   go_step3
   exact ⟨rfl,⟨Below.refl _ _,HNT.out⟩,_,_,_,_,_,_,_,_,_,_,_,_,_,_,_,_,_,_,_,_,_,_, rfl⟩
 ·rintro a' W ⟨HH,u0,u1,u2,u3,u4,u5,u6,u7,u8,u9,u10,u11,u12,u13,u14,u15,u16,u17,u18,u19,u20,u21,rfl⟩
  go_wp2
  try simp only [Exit.jump]
  go_ret2
  obtain ⟨h1,h2⟩:=HNO.out HH.out.2
  exact ⟨by rw [h1,h2];rfl,HH.out.1⟩
def VTA (base:Nat) (lb:Int) (ev:Nat) (A:Option Addr) (c:Nat) (z1 z2:ByteArray) (b:Bool) (i:Nat) (v:Value) (w:World):Prop :=
 match i with
 | 0 | 4=>v=.int .u32 ev
 | 1 | 2=>v=.bool false
 | 3=>v=.int .u8 lb
 | 5=>w.ownsRow base 5 1 v 64 (Bs (anchorB lb ev))
 | 6=>v=.string z1
 | 7=>v=.slice A 64 c
 | 8=>v=.string z2
 | 9=>v=.bool (!b)
 | _=>True
theorem VTA.on {base:Nat} {lb:Int} {ev:Nat} {A:Option Addr} {c:Nat} {z1 z2:ByteArray} {b:Bool} {j:Nat} {v:Value} {w w':World} (h:VTA base lb ev A c z1 z2 b j v w) (hs:w.grownBy w' none):VTA base lb ev A c z1 z2 b j v w':=by
 unfold VTA at *
 split <;> try exact h
 ·exact World.ownsRow.kept h hs (by cases v.ownBlock <;> simp)
 ·trivial
set_option maxRecDepth 100000 in
set_option maxHeartbeats 3200000 in
theorem rtakea_any (lb:Int) (A:Option Addr) (xs:List Int) (n c:Nat) (w:World) (hlb:0≤lb∧lb≤255) (hn:xs.length=n) (hl:n≤c) (hc:c≤9223372036854775807) (hB:AllB xs) (hy:Byt w A xs) :
 Calls Tryz.prog 49 #[.int .u8 lb,.slice A n c] w fun en w'=>en=.returned (.tuple #[.int .u32 (takeA lb xs),.bool (decide (TakenA lb xs))])∧Below w.heap.size w w':=by
 have HY:=Lib.hid hy
 have HN:=Lib.hid hn
 have HB:=Lib.hid hB
 have HNO:Hid (¬ TakenA lb xs→takeA lb xs=0∧decide (TakenA lb xs)=false):=fun h=>⟨by unfold takeA;rw [if_neg h],decide_eq_false h⟩
 clear hn hB hy
 by_cases h64:n=64
 ·subst h64
  obtain ⟨x0,hx0⟩:∃ x0,xs[0]?=some x0:=⟨_,List.getElem?_eq_getElem (by rw [HN.out];omega)⟩
  obtain ⟨ad,rfl,_⟩:=HY.out 0 x0 hx0
  have hev:=anE_lt HB.out HN.out
  have HNUM:=Lib.hid (rnum_any (some (ad.add 3)) ((xs.drop 3).take 4) 4 (c-3) w (by rw [List.length_take,List.length_drop,HN.out];rfl) (by omega) (fun x hx=>HB.out x (List.mem_of_mem_drop (List.mem_of_mem_take hx))) (byt_cut HY.out 3 4))
  have HT:Hid (TakenA lb xs↔anE xs≠4294967295∧anchorB lb (anE xs)=xs):=⟨fun h=>h.2,fun h=>⟨HN.out,h⟩⟩
  have HTA:Hid (TakenA lb xs→takeA lb xs=anE xs):=fun h=>by unfold takeA;rw [if_pos h]
  change Hid (Calls _ _ _ _ (fun e w'=>e=.returned (.int .u64 (anE xs))∧w=w')) at HNUM
  generalize anE xs=ev at *
  have ha3:ad.add 3=⟨ad.block,ad.off+3,none⟩:=add_sum ad 2
  rw [ha3] at HNUM
  have hc3:¬ c=3:=by omega
  have wev:IntKind.u32.wrap (ev:Int)=ev:=IntWalk.u32_in _ (by omega)
  clear hx0 ha3
  go_enter Tryz.func49,Tryz.ntmps49
  go_wp2_with fail
  refine HNUM.out.mono ?_
  rintro en w1 ⟨rfl,rfl⟩
  by_cases hlast:ev=4294967295
  ·have HNT:Hid (¬ TakenA lb xs):=fun h=>(HT.out.1 h).1 hlast
   have hq:((ev:Int)==4294967295)=true:=by simp;omega
   have hq':(ev:Int)=4294967295:=by omega
   clear hlast
   go_upto_region 4 with fail
   go_quiet (fail)
   have hbq:=bdn (Below.refl w.heap.size w) nq
   generalize w.drewN nq=w7 at *
   go_wp2
   go_ret2
   obtain ⟨h1,h2⟩:=HNO.out HNT.out
   exact ⟨by rw [h1,h2];rfl,hbq⟩
  ·have hq:((ev:Int)==4294967295)=false:=by simp;omega
   have HL:=Lib.hid hlast
   clear hlast
   obtain ⟨z1,HZ1⟩:∃ z1,Hid (z1=strOfNums (anchorB lb ev)):=⟨_,rfl⟩
   obtain ⟨z2,HZ2⟩:∃ z2,Hid (z2=strOfNums xs):=⟨_,rfl⟩
   have hsq:(z1.toList==z2.toList)=decide (anchorB lb ev=xs):=by rw [HZ1.out,HZ2.out];exact str_beq (anchorB_allB ev hlb) HB.out
   obtain ⟨b,hb',HBB⟩:∃ b,(z1.toList==z2.toList)=b∧Hid (b=decide (anchorB lb ev=xs)):=⟨_,rfl,hsq⟩
   clear hsq
   go_upto_region 4 with fail
   have grefl:∀ W:World,W.grownBy W none:=fun W=>World.grownBy.refl W _
   refine wp_region_rgk (VTA w.heap.size lb ev (some ad) c z1 z2 b) (fun _ W=>Below w.heap.size w W) (fun _ w w'=>w.grownBy w' none) (by kernel_rfl) (by kernel_rfl) (fun i j v' w' w'' hij hind h hg=>h.on hg) ((Below.refl _ _).drew) ?_
   simp only [RAll]
   refine ⟨?_,?_,?_,?_,?_,?_,?_,?_,?_,?_,?_⟩
   ·refine RStepK.of rfl fun T W L hag hL hJ hLs hd=>?_
    have e6:T.getD 6 undef=_:=(agree_at hag 6 (by kernel_rfl)).trans rfl
    clear hag hd
    go_simp
    exact ⟨_,rfl,rfl⟩
   ·refine RStepK.of rfl fun T W L hag hL hJ hLs hd=>?_
    have d14:T.getD 14 undef=_:=hd ⟨0,.data⟩ (by simp) rfl _ rfl
    clear hag hd
    go_simp
    exact ⟨_,rfl,rfl⟩
   ·refine RStepK.of rfl fun T W L hag hL hJ hLs hd=>?_
    have d15:T.getD 15 undef=_:=hd ⟨1,.data⟩ (by simp) rfl _ rfl
    clear hag hd
    go_simp
    exact ⟨_,rfl,rfl⟩
   ·refine RStepK.want rfl rfl rfl (by kernel_rfl) (fun v w h=>h) fun T W L hag hL hJ hLs hd=>?_
    have e0:T.getD 0 undef=_:=(agree_at hag 0 (by kernel_rfl)).trans rfl
    clear hag hd
    go_simp
    exact ⟨_,rfl,rfl⟩
   ·refine RStepK.want rfl rfl rfl (by kernel_rfl) (fun v w h=>h) fun T W L hag hL hJ hLs hd=>?_
    have e6:T.getD 6 undef=_:=(agree_at hag 6 (by kernel_rfl)).trans rfl
    clear hag hd
    go_simp
    exact ⟨_,rfl,rfl⟩
   ·refine RStepK.want rfl rfl rfl (by kernel_rfl) (fun v w h=>h) fun T W L hag hL hJ hLs hd=>?_
    have d17:T.getD 17 undef=_:=hd ⟨3,.data⟩ (by simp) rfl _ rfl
    have d18:T.getD 18 undef=_:=hd ⟨4,.data⟩ (by simp) rfl _ rfl
    clear hag hd
    go_simp
    refine (ranchor_any lb ev W hlb hev).mono ?_;rintro en w' ⟨v',rfl,hown,hb⟩
    exact ⟨_,rfl,hown.mono hJ.size,hJ.trans (hb.mono hJ.size),growN hb⟩
   ·refine RStepK.want rfl rfl rfl (by kernel_rfl) (fun v w h=>h) fun T W L hag hL hJ hLs hd=>?_
    have x19:W.ownsRow w.heap.size 5 1 (T.getD 19 undef) 64 (Bs (anchorB lb ev)):=hd ⟨5,.data⟩ (by simp) rfl _ rfl
    obtain ⟨A2,d2,e19,_,_,hy2⟩:=byt_own x19 (anchorB_length lb ev)
    rw [anchorB_length] at e19
    have hcv:(convert 48 9 (.slice A2 64 d2)).run Tryz.prog W=.ok (.string z1) W:=by rw [HZ1.out];exact conv_any hy2 (anchorB_length lb ev)
    have ev19:(⟨T,[]⟩:Act).eval (.tmp 19)=.slice A2 64 d2:=e19
    clear hag hd
    refine wp_run (v:=.string z1) (w':=W) ?_ ⟨_,rfl,rfl,hJ,World.grownBy.refl _ _⟩
    unfold execOp
    simp only [ev19,Sem.run_bind,hcv,Result.andThen_ok,Sem.run_pure]
   ·refine RStepK.want rfl rfl rfl (by kernel_rfl) (fun v w h=>h) fun T W L hag hL hJ hLs hd=>?_
    have e1:T.getD 1 undef=_:=(agree_at hag 1 (by kernel_rfl)).trans rfl
    clear hag hd
    go_simp
    exact ⟨_,rfl,rfl⟩
   ·refine RStepK.want rfl rfl rfl (by kernel_rfl) (fun v w h=>h) fun T W L hag hL hJ hLs hd=>?_
    have d21:T.getD 21 undef=_:=hd ⟨7,.data⟩ (by simp) rfl _ rfl
    have hcv:(convert 48 9 (.slice (some ad) 64 c)).run Tryz.prog W=.ok (.string z2) W:=by rw [HZ2.out];exact conv_any (HY.out.keep' hJ) HN.out
    have ev21:(⟨T,[]⟩:Act).eval (.tmp 21)=.slice (some ad) 64 c:=d21
    clear hag hd
    refine wp_run (v:=.string z2) (w':=W) ?_ ⟨_,rfl,rfl,hJ,World.grownBy.refl _ _⟩
    unfold execOp
    simp only [ev21,Sem.run_bind,hcv,Result.andThen_ok,Sem.run_pure]
   ·refine RStepK.want rfl rfl rfl (by kernel_rfl) (fun v w h=>h) fun T W L hag hL hJ hLs hd=>?_
    have d20:T.getD 20 undef=_:=hd ⟨6,.data⟩ (by simp) rfl _ rfl
    have d22:T.getD 22 undef=_:=hd ⟨8,.data⟩ (by simp) rfl _ rfl
    clear hag hd
    go_simp
    exact ⟨_,rfl,rfl⟩
   ·refine RLastK.of rfl fun T W L hag hLs hL hJ hd=>?_
    have d16:T.getD 16 undef=_:=hd 2 _ (by simp) rfl
    have d23:T.getD 23 undef=_:=hd 9 _ (by simp) rfl
    obtain ⟨f,hf,hT⟩:=agree_fn hag
    have h16:=(hf 16).trans d16
    have h23:=(hf 23).trans d23
    have HJ:=Lib.hid hJ
    clear hag hd d16 d23 hJ hf
    rw [hT]
    clear hT
    simp only [List.pop_toArray,List.dropLast_cons_cons,List.dropLast_singleton,List.filterMap_cons,List.filterMap_nil,List.foldl_cons,List.foldl_nil,List.setIfInBounds_toArray,List.set_cons_succ,List.set_cons_zero,h16,h23]
    cases b with
    | true =>
      have HYES:Hid (TakenA lb xs):=HT.out.2 ⟨HL.out,of_decide_eq_true HBB.out.symm⟩
      go_wp2_with fail
      go_ret2
      exact ⟨by rw [HTA.out HYES.out,decide_eq_true HYES.out];rfl,HJ.out⟩
    | false =>
      have HNT:Hid (¬ TakenA lb xs):=fun h=>of_decide_eq_false HBB.out.symm (HT.out.1 h).2
      go_wp2_with fail
      go_ret2
      obtain ⟨h1,h2⟩:=HNO.out HNT.out
      exact ⟨by rw [h1,h2];rfl,HJ.out⟩
 ·have HNT:Hid (¬ TakenA lb xs):=fun h=>h64 (by rw [← HN.out];exact h.1)
  go_enter Tryz.func49,Tryz.ntmps49
  go_wp2
  go_ret2
  obtain ⟨h1,h2⟩:=HNO.out HNT.out
  exact ⟨by rw [h1,h2];rfl,Below.refl _ _⟩
instance:DecidableEq Wr:=fun x y =>
 if h:x.t=y.t∧x.k=y.k∧x.bs=y.bs then isTrue (by cases x;cases y;simp at h;obtain ⟨rfl,rfl,rfl⟩:=h;rfl) else isFalse (fun e=>h (by subst e;exact ⟨rfl,rfl,rfl⟩))
theorem eqlB (d:Nat) (k j:Int) (bs cs:List Int) (hb:bs.length=56) (hc:cs.length=56) (hB:AllB bs) (hC:AllB cs) (w:World) :
 (Op.equalIn (d+3) 71 (.agg (blkA k bs)) (.agg (blkA j cs))).run Tryz.prog w=.ok (decide (k=j∧bs=cs)) w:=by
 have hS:Tryz.prog.underlying 71=some (.struct (Tryz.prog.fieldsOf 71)):=by kernel_rfl
 have hp:Tryz.prog.stoodInHeld 71=false:=by kernel_rfl
 have a3:=Tryz.isAgg3
 have a22:=Tryz.isAgg69
 have z22:=Tryz.sizeOf69
 rw [show d+3=(d+2)+1 from rfl,run_equalIn_struct w (d+2) 71 _ _ hS hp]
 clear hS hp
 have p1:∀ (k:Int) (bs:List Int) w,bs.length=56→(part 69 (blkA k bs) 1).run Tryz.prog w=.ok (.agg (Bs bs).toArray) w:=fun k bs w h=>by
  have e:(blkA k bs).extract 1 57=(Bs bs).toArray:=by
   have hl:(Bs bs).length=56:=by rw [Bs_length,h]
   unfold blkA blkL
   simp [← hl]
  simp [part,a22,z22,e,blkA_size h]
 have p0:∀ (k:Int) (bs:List Int) w,(part 3 (blkA k bs) 0).run Tryz.prog w=.ok (.int .i64 k) w:=fun k bs w=>by
  simp [part,a3,blkA,blkL]
 have he:∀ w,(Op.equalIn (d+2) 69 (.agg (Bs bs).toArray) (.agg (Bs cs).toArray)).run Tryz.prog w=.ok (decide (bs=cs)) w:=fun w=>by
  have h:=run_equalIn_bytes (P:=Tryz.prog) w d 69 5 56 Tryz.underlying69 Tryz.underlying5 (fun w=>Tryz.sizeOf5 w) (u8s bs) (u8s cs) (by unfold u8s;simp [hb]) (by unfold u8s;simp [hc])
  rw [← Bs_cell hB,← Bs_cell hC] at h
  rw [h]
  congr 1
  rw [Bool.eq_iff_iff]
  simp only [beq_iff_eq,decide_eq_true_eq]
  exact ⟨map_byte_inj hB hC,fun h=>by rw [h]⟩
 have hf : (Tryz.prog.fieldsOf 71).toList.map (fun f => (f.name, f.type, f.offset)) = [("Kind", 3, 0), ("Body", 69, 1)] := by kernel_rfl
 revert hf
 generalize (Tryz.prog.fieldsOf 71).toList=fs
 intro hf
 obtain ⟨f0,f1,rfl⟩:=two_of (show fs.length=2 by simpa using congrArg List.length hf)
 simp only [List.map_cons,List.map_nil,List.cons.injEq,Prod.mk.injEq,and_true] at hf
 obtain ⟨⟨n0,t0,o0⟩,⟨n1,t1,o1⟩⟩:=hf
 have q0:∀ (k:Int) (bs:List Int) w,(part f0.type (blkA k bs) f0.offset).run Tryz.prog w=.ok (.int .i64 k) w:=fun k bs w=>by rw [t0,o0];exact p0 k bs w
 have q1:∀ (k:Int) (bs:List Int) w,bs.length=56→(part f1.type (blkA k bs) f1.offset).run Tryz.prog w=.ok (.agg (Bs bs).toArray) w:=fun k bs w h=>by rw [t1,o1];exact p1 k bs w h
 have e0:∀ w,(Op.equalIn (d+2) f0.type (.int .i64 k) (.int .i64 j)).run Tryz.prog w=.ok (k==j) w:=fun w=>by
  rw [t0];exact run_equalIn_int (P:=Tryz.prog) w (d+1) 3 .i64 .i64 k j Tryz.underlying3
 have e1:∀ w,(Op.equalIn (d+2) f1.type (.agg (Bs bs).toArray) (.agg (Bs cs).toArray)).run Tryz.prog w=.ok (decide (bs=cs)) w:=fun w=>by
  rw [t1];exact he w
 have m0 : f0.name ≠ "_" := by rw [n0]; decide
 have m1 : f1.name ≠ "_" := by rw [n1]; decide
 clear p0 p1 he n0 t0 o0 n1 t1 o1 a3 a22 z22
 simp only [Op.eqFields,if_pos m0,if_pos m1,Sem.run_bind,q0,Result.andThen_ok,e0]
 by_cases hk:k=j
 ·subst hk
  by_cases hq:bs=cs
  ·subst hq;simp [e1,Sem.run_bind,q1 _ _ _ hb]
  ·simp [e1,Sem.run_bind,q1 _ _ _ hb,q1 _ _ _ hc,hq]
 ·simp [hk]
theorem sumd_take {xs:List Int} (h:xs.length≤60):(sumd xs).take 60=fillB xs:=by unfold sumd;rw [← fillB_length h];exact List.take_left
theorem sumd_pre {xs ys:List Int} (h:xs.length≤60) (h':ys.length≤60) (hl:xs.length=ys.length) (e:sumd xs=sumd ys):xs=ys:=by
 have h1:=congrArg (List.take 60) e
 rw [sumd_take h,sumd_take h'] at h1
 have h2:=congrArg (List.take xs.length) h1
 unfold fillB at h2
 rw [List.take_left,hl,List.take_left] at h2
 exact h2
theorem front_inj {lb lb':Int} {e e' s s' n n':Nat} (he:e<4294967296) (he':e'<4294967296) (hs:s<4294967296) (hs':s'<4294967296) (h:front lb e s n=front lb' e' s' n'):lb=lb'∧e=e'∧s=s':=by
 refine ⟨?_,?_,?_⟩
 ·have:=congrArg (fun z:List Int=>z.getD 1 0) h;exact this
 ·exact be4_inj he he' (by have:=congrArg (fun z:List Int=>(z.drop 2).take 4) h;exact this)
 ·exact be4_inj hs hs' (by have:=congrArg (fun z:List Int=>(z.drop 6).take 4) h;exact this)
theorem told_drop:∀ {l:List Wr} {i:Nat} {x:Wr},l[i]?=some x→(told l).drop (3*i)=be x.t.toNat 2++[x.k]++told (l.drop (i+1))
 | [],i,x,h=>by cases h
 | y :: l,0,x,h=>by injection h with h;subst h;rfl
 | y :: l,i+1,x,h=>by
   have h1:=told_drop (l:=l) (i:=i) h
   show ((be y.t.toNat 2++[y.k])++told l).drop (3*(i+1))=_
   rw [List.drop_append,List.drop_of_length_le (by simp [be_length];omega),List.nil_append]
   rw [show 3*(i+1)-(be y.t.toNat 2++[y.k]).length=3*i by simp [be_length];omega]
   exact h1
section
variable {lb:Int} {e s:Nat} {l:List Wr} {rest:List (List Int)}
theorem put_head (hm:MayL l):(putL lb e s l++rest).headD []=sumd (headR lb e s l):=rfl
theorem head_len (hm:MayL l):(headR lb e s l).length≤60:=by rw [headR_length];have:=hm.1.2;omega
theorem head_at (hm:MayL l) {j:Nat} (hj:j<11+3*l.length):(sumd (headR lb e s l))[j]?=(headR lb e s l)[j]?:=by
 unfold sumd fillB
 rw [List.append_assoc,List.getElem?_append_left (by rw [headR_length];exact hj)]
theorem cnt_put (hm:MayL l):cnt (putL lb e s l++rest)=l.length:=by
 unfold cnt
 rw [put_head hm,List.getD_eq_getElem?_getD,head_at hm (by omega)]
 unfold headR
 rw [List.getElem?_append_left (by rw [front_length];omega)]
 show ((front lb e s l.length)[10]?.getD 0).toNat=_
 show ((l.length:Int)).toNat=_
 simp
theorem can_put (hm:MayL l):CanRead (putL lb e s l++rest) :=
 ⟨by rw [put_head hm];exact sumd_length (head_len hm),by rw [cnt_put hm];exact hm.1.2,by rw [cnt_put hm,List.length_append,putL_length];omega⟩
theorem put_at {i:Nat} {x:Wr} (hx:l[i]?=some x):(putL lb e s l++rest)[1+i]?=some (sumd (bearB e s x.bs)):=by
 have hlt:=(List.getElem?_eq_some_iff.1 hx).1
 rw [List.getElem?_append_left (by rw [putL_length];omega)]
 unfold putL
 rw [Nat.add_comm,List.getElem?_cons_succ,List.getElem?_map,hx];rfl
theorem pad_bear {bs:List Int} (h:bs.length=56):padB (sumd (bearB e s bs))=bs:=by
 have hl:(bearB e s bs).length=60:=bearB_length h
 unfold padB
 rw [sumd_length (by omega)]
 have h1:(sumd (bearB e s bs)).take 56=bs:=by
  have:(sumd (bearB e s bs)).take 56=((sumd (bearB e s bs)).take 60).take 56:=by rw [List.take_take];rfl
  rw [this,sumd_take (by omega)]
  unfold fillB bearB
  rw [List.append_assoc,List.append_assoc,← h]
  exact List.take_left
 rw [h1];simp
theorem wAt_put (hm:MayL l) (hok:WrsOk l) {i:Nat} {x:Wr} (hx:l[i]?=some x):wAt (putL lb e s l++rest) i=x:=by
 have hlt:=(List.getElem?_eq_some_iff.1 hx).1
 have hxm:=hm.2.1 x (List.mem_of_getElem? hx)
 have hd:(sumd (headR lb e s l)).drop (11+3*i)=be x.t.toNat 2++[x.k]++(told (l.drop (i+1))++(List.replicate (60-(headR lb e s l).length) 0++be (sumV (fillB (headR lb e s l))) 4)):=by
  unfold sumd fillB
  rw [List.append_assoc]
  have h0:∀ tl:List Int,(headR lb e s l++tl).drop (11+3*i)=be x.t.toNat 2++[x.k]++told (l.drop (i+1))++tl:=fun tl=>by
   unfold headR
   rw [← told_drop hx,List.append_assoc,← List.drop_drop,← front_length lb e s l.length,List.drop_left,List.drop_append_of_le_length (by rw [told_length];omega)]
  rw [h0,List.append_assoc]
 unfold wAt
 rw [put_head hm,hd]
 have e1:numV ((be x.t.toNat 2++[x.k]++(told (l.drop (i+1))++(List.replicate (60-(headR lb e s l).length) 0++be (sumV (fillB (headR lb e s l))) 4))).take 2)=x.t.toNat:=by
  rw [List.append_assoc]
  have:∀ tl:List Int,(be x.t.toNat 2++tl).take 2=be x.t.toNat 2:=fun tl=>by
   have h2:=be_length x.t.toNat 2
   rw [← h2];simp [be_length]
  rw [this]
  exact numV_be 2 _ (by have:=hxm.2;omega)
 have e2:(sumd (headR lb e s l)).getD (13+3*i) 0=x.k:=by
  have h3:(sumd (headR lb e s l))[11+3*i+2]?=some x.k:=by
   rw [← List.getElem?_drop,hd];rfl
  rw [List.getD,show 13+3*i=11+3*i+2 by omega,h3];rfl
 have e3:padB ((putL lb e s l++rest).getD (1+i) [])=x.bs:=by
  rw [List.getD_eq_getElem?_getD,put_at hx];exact pad_bear (hok x (List.mem_of_getElem? hx)).len
 rw [e1,e2,e3]
 have:((x.t.toNat:Nat):Int)=x.t:=by have:=hxm.2;omega
 rw [this]
theorem readW_put (hm:MayL l) (hok:WrsOk l):readW (putL lb e s l++rest) l.length=l:=by
 apply List.ext_getElem?
 intro i
 unfold readW
 rw [List.getElem?_map]
 by_cases hi:i<l.length
 ·obtain ⟨x,hx⟩:∃ x,l[i]?=some x:=⟨_,List.getElem?_eq_getElem hi⟩
  rw [List.getElem?_range hi,hx]
  show some (wAt _ i)=some x
  rw [wAt_put hm hok hx]
 ·rw [List.getElem?_eq_none (by simp;omega),List.getElem?_eq_none (by omega)];rfl
theorem put_take:(putL lb e s l++rest).take (1+l.length)=putL lb e s l:=by rw [← putL_length lb e s l];exact List.take_left
theorem taken_put {lb':Int} {e' s':Nat} (hm:MayL l) (hok:WrsOk l) (he:e<4294967296) (he':e'<4294967296) (hs:s<4294967296) (hs':s'<4294967296):Taken lb' e' s' (putL lb e s l++rest)↔lb'=lb∧e'=e∧s'=s:=by
 unfold Taken
 rw [cnt_put hm,readW_put hm hok,put_take]
 constructor
 ·rintro ⟨_,_,h⟩
  unfold putL at h
  injection h with h1 _
  have h2:=sumd_pre (head_len hm) (head_len hm) (by rw [headR_length,headR_length]) h1
  unfold headR at h2
  exact front_inj he' he hs' hs (List.append_inj h2 (by rw [front_length,front_length])).1
 ·rintro ⟨rfl,rfl,rfl⟩
  exact ⟨can_put hm,hm,rfl⟩
theorem takeV_put (hm:MayL l) (hok:WrsOk l) (he:e<4294967296) (hs:s<4294967296):takeV lb e s (putL lb e s l++rest)=l∧takeN lb e s (putL lb e s l++rest)=1+l.length:=by
 have h:=(taken_put (lb':=lb) (rest:=rest) hm hok he he hs hs).2 ⟨rfl,rfl,rfl⟩
 unfold takeV takeN
 rw [if_pos h,if_pos h,cnt_put hm,readW_put hm hok];exact ⟨rfl,rfl⟩
end
def yb:Wr:=⟨1,4,zBs⟩
theorem yb_ok:yb.Ok:=⟨by constructor <;> (unfold yb;simp only;omega),by constructor <;> (unfold yb;simp only;omega),zBs_len,fun x hx=>by unfold yb zBs at hx;rw [List.eq_of_mem_replicate hx];omega⟩
theorem yb_may:MayL [yb]:=⟨by simp,fun x hx=>by simp at hx;subst hx;exact ⟨by unfold yb;simp only;omega,by unfold yb;simp only;omega⟩,by simp⟩
theorem yb_wrs:WrsOk [yb]:=fun x hx=>by simp at hx;subst hx;exact yb_ok
theorem anE_anchor {lb:Int} {e:Nat} (he:e<4294967296):anE (anchorB lb e)=e:=by
 unfold anE anchorB sumd fillB
 have:∀ tl:List Int,(([65,78,lb]++be e 4++tl).drop 3).take 4=be e 4:=fun tl=>rfl
 rw [List.append_assoc ([65,78,lb]++be e 4),this]
 exact numV_be 4 e (by omega)
theorem takenA_anchor {lb lb':Int} {e:Nat} (he:e<4294967296):TakenA lb' (anchorB lb e)↔lb'=lb∧e≠4294967295:=by
 unfold TakenA
 rw [anE_anchor he]
 constructor
 ·rintro ⟨_,h1,h2⟩
  refine ⟨?_,h1⟩
  have h3:=sumd_pre (by simp [be_length]) (by simp [be_length]) (by simp [be_length]) h2
  have:=congrArg (fun z:List Int=>z.getD 2 0) h3;exact this
 ·rintro ⟨rfl,h1⟩
  exact ⟨anchorB_length _ _,h1,rfl⟩
theorem putX_may {lb:Int} {e s:Nat} {l:List Wr} (h:MayL l):putX lb e s l=putL lb e s l:=by unfold putX;rw [if_pos h]
end Go.Proofs.YtamnpblijdgdaaaGreat
