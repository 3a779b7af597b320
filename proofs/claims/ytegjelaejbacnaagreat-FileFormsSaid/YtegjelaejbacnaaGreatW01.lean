/- For FileForms: contracts and facts, part 1. -/
import Derived.Scope
import Derived.ScopeJumps
import Derived.WalkKit
import Derived.Test.YtegjelaejbacnaaGreatRows
import Derived.ProofKit
import Derived.OpenShut
import Derived.Outline
import Derived.WalkLawsBesides
import Derived.Laws.Bits64b
import Derived.Deep.RegionHeld3
import Derived.Lib.Hide
import Derived.LoopTactic
import Derived.Laws.StructEq
import Derived.Laws.BytesArg
import Derived.Laws.MakeOwn
import Derived.Maps.AppendAt
import Derived.OwnWalk
import Derived.IntWalk
import Derived.WalkMore
import Derived.Deep.QuietTactic
import Derived.BigQuiet
import Derived.Deep.Slices
import Derived.Deep.Fields
import Derived.ChangeSame
import Derived.Carry
import Derived.Lib.SmallJoins
import Derived.Deep.AppendLies
import Derived.Deep.RegionLaw
import Derived.Laws.BitsAllLaws
import Derived.Deep.MidRow
import Derived.Laws.CopyOwn
import Derived.OrdersHeld
set_option maxRecDepth 100000
set_option maxHeartbeats 25600000
set_option linter.unusedVariables false
open Go.ChangeShapes Go.WideShapes Go.ChangeAt Go.RowKit Go.Deep
namespace Go.Proofs.YtegjelaejbacnaaGreat
theorem Ha {P:Prop} (h:P:=by omega):P:=h
theorem Hb {P:Prop} (h:P:=by simp):P:=h
theorem Hc {P:Prop} (h:P:=by kernel_rfl):P:=h
theorem Hd {P:Prop} (h:P:=by decide):P:=h
theorem Hl {P:Prop} (h:P:=by rfl):P:=h
theorem He {P:Prop} (h:P):Hid P:=Lib.hid h
def cB (J:Nat->Act->World->Prop) (Q:Exit->Act->World->Prop):Exit->Act->World->Prop
 | .goto l,a,w=>J l a w
 | e,a,w=>Q e a w
theorem aY (J:Nat->Act->World->Prop) (Q:Exit->Act->World->Prop):cB J Q .ret=Q .ret:=rfl
theorem tM (J:Nat->Act->World->Prop) (Q:Exit->Act->World->Prop):cB J Q .normal=Q .normal:=rfl
theorem gp {P:Program} {a:Act} {w:World} {Q:Exit->Act->World->Prop} {c:Code} (J:Nat->Act->World->Prop) (μ:Nat->Act->World->Nat)
 (hf:∀ l a w,J l a w->∃ rest,findLabel c l=some rest)
 (first:c.wp P (cB J Q) a w)
 (pass:∀ l rest,findLabel c l=some rest->∀ a w,J l a w->rest.wp P (cB (fun l' a' w'=>J l' a' w'/\μ l' a' w'<μ l a w) Q) a w):(Code.scope c).wp P Q a w:=by
 intro b k cs;have hg:∀ l rest,findLabel c l=some rest->gotoIn l (.inScope c :: k)=some (.code rest :: .inScope c :: k):=fun l rest h=>by simp [gotoIn,h]
 have key:∀ n l rest a w,findLabel c l=some rest->μ l a w=n->J l a w->∃ e a' w',Q e a' w'/\Arrives P (lone (b.at a (.code rest :: .inScope c :: k)) cs w) b k cs e a' w':=by
  intro n
  induction n using Nat.strongRecOn with
  | _ n ih =>
    intro l rest a w hl hn hJ;obtain ⟨e,a₁,w₁,hq,harr⟩:=pass l rest hl a w hJ b (.inScope c :: k) cs;cases e with
    | normal=>exact ⟨.normal,a₁,w₁,hq,Steps.trans harr (.one step_inScope)⟩
    | exit id=>exact ⟨.exit id,a₁,w₁,hq,fun k' hk=>harr k' (by simp [exitTo,hk])⟩
    | goto l' =>
      obtain ⟨hJ',hlt⟩:=hq;obtain ⟨rest',hl'⟩:=hf _ _ _ hJ';obtain ⟨e₂,a₂,w₂,hq₂,harr₂⟩:=ih _ Ha l' rest' a₁ w₁ hl' rfl hJ';exact ⟨e₂,a₂,w₂,hq₂,.of_steps (harr _ (hg _ _ hl')) harr₂⟩
    | ret=>exact ⟨_,a₁,w₁,hq,harr⟩
    | panic ch=>exact ⟨_,a₁,w₁,hq,harr⟩
    | outgrown=>exact ⟨_,a₁,w₁,hq,harr⟩
 obtain ⟨e,a₁,w₁,hq,harr⟩:=first b (.inScope c :: k) cs
 cases e with
 | normal=>exact ⟨.normal,a₁,w₁,hq,.head step_scope (Steps.trans harr (.one step_inScope))⟩
 | exit id=>exact ⟨.exit id,a₁,w₁,hq,fun k' hk=>.head step_scope (harr k' (by simp [exitTo,hk]))⟩
 | goto l' =>
   have hJ':J l' a₁ w₁:=hq;obtain ⟨rest',hl'⟩:=hf _ _ _ hJ';obtain ⟨e₂,a₂,w₂,hq₂,harr₂⟩:=key _ l' rest' a₁ w₁ hl' rfl hJ';exact ⟨e₂,a₂,w₂,hq₂,.of_steps (.head step_scope (harr _ (hg _ _ hl'))) harr₂⟩
 | ret=>exact ⟨_,a₁,w₁,hq,.of_steps (.one step_scope) harr⟩
 | panic ch=>exact ⟨_,a₁,w₁,hq,.of_steps (.one step_scope) harr⟩
 | outgrown=>exact ⟨_,a₁,w₁,hq,.of_steps (.one step_scope) harr⟩
theorem aV {P:Program} {a:Act} {w:World} {Q:Exit->Act->World->Prop} {c r:Code} (J:Act->World->Prop) (μ:Act->World->Nat)
 (h:findLabel c 0=some (.seq .skip r))
 (first:(∀ a w,J a w->r.wp P (Exit.jump 0 J Q) a w)->c.wp P (Exit.jump 0 J Q) a w)
 (pass:∀ a w,J a w->r.wp P (Exit.jump 0 (fun a' w'=>J a' w'/\μ a' w'<μ a w) Q) a w):(Code.scope c).wp P Q a w:=by
 refine wp_scope_jumps 0 J μ h (first fun a w hJ=>?_) (fun a w hJ=>wp_seq (wp_skip (pass a w hJ)));refine wp_mono (pass a w hJ) ?_;intro e a' w' he;cases e with
 | goto l'=>obtain ⟨rfl,h1,h2⟩:=he;exact ⟨rfl,h1⟩
 | _=>exact he
theorem xD {P:Program} {a:Act} {w:World} {Q:Exit->Act->World->Prop} {c r0 r1:Code} (J0 J1:Act->World->Prop) (μ:Act->World->Nat)
 (h0:findLabel c 0=some (.seq .skip r0)) (h1:findLabel c 1=some r1)
 (first:(∀ a w,J0 a w->r0.wp P (cB (fun l a w=>match l with | 0=>J0 a w | 1=>J1 a w | _=>False) Q) a w)->c.wp P (cB (fun l a w=>match l with | 0=>J0 a w | 1=>J1 a w | _=>False) Q) a w)
 (pass0:∀ a w,J0 a w->r0.wp P (cB (fun l a' w'=>match l with | 0=>J0 a' w'/\μ a' w'<μ a w | 1=>J1 a' w' | _=>False) Q) a w)
 (pass1:∀ a w,J1 a w->r1.wp P (cB (fun _ _ _=>False) Q) a w):(Code.scope c).wp P Q a w:=by
 refine gp (fun l a w=>match l with | 0=>J0 a w | 1=>J1 a w | _=>False) (fun l a w=>match l with | 0=>μ a w+1 | _=>0) ?_ (first fun a w h=>?_) ?_
 ·intro l a w h
  match l,h with
  | 0,_=>exact ⟨_,h0⟩
  | 1,_=>exact ⟨_,h1⟩
 ·refine wp_mono (pass0 a w h) ?_;intro e a' w' he;cases e with
  | goto l'=>match l',he with
    | 0,he=>exact he.1
    | 1,he=>exact he
  | _=>exact he
 ·intro l rest hl a w hJ
  match l,hJ with
  | 0,hJ =>
    rw [h0] at hl;injection hl with hl;subst hl
    refine wp_seq (wp_skip (wp_mono (pass0 a w hJ) ?_));intro e a' w' he;cases e with
    | goto l'=>match l',he with
      | 0,he=>exact ⟨he.1,Nat.succ_lt_succ he.2⟩
      | 1,he=>exact ⟨he,Nat.succ_pos _⟩
    | _=>exact he
  | 1,hJ =>
    rw [h1] at hl;injection hl with hl;subst hl
    refine wp_mono (pass1 a w hJ) ?_;intro e a' w' he;cases e with
    | goto l'=>exact he.elim
    | _=>exact he
def tN (P:Program) (c:Code) (Q:Exit->Act->World->Prop):List Nat->Nat->Act->World->Prop
 | [],_,_,_=>False
 | l :: ls,m,a,w=>(m=l/\∃ rest,findLabel c l=some rest/\rest.wp P (cB (tN P c Q ls) Q) a w)\/(m≠l/\tN P c Q ls m a w)
theorem At {P:Program} {c:Code} {Q:Exit->Act->World->Prop} {l:Nat} {ls:List Nat} {a:Act} {w:World} {rest:Code} (h:findLabel c l=some rest) (hw:rest.wp P (cB (tN P c Q ls) Q) a w):tN P c Q (l :: ls) l a w:=Or.inl ⟨rfl,rest,h,hw⟩
theorem EB {P:Program} {c:Code} {Q:Exit->Act->World->Prop} {l m:Nat} {ls:List Nat} {a:Act} {w:World} (h:m≠l) (hw:tN P c Q ls m a w):tN P c Q (l :: ls) m a w:=Or.inr ⟨h,hw⟩
theorem tO {P:Program} {a:Act} {w:World} {Q:Exit->Act->World->Prop} {c:Code} (ls:List Nat)
 (first:c.wp P (cB (tN P c Q ls) Q) a w):(Code.scope c).wp P Q a w:=by
 intro b k cs;have hg:∀ l rest,findLabel c l=some rest->gotoIn l (.inScope c :: k)=some (.code rest :: .inScope c :: k):=fun l rest h=>by simp [gotoIn,h]
 have key:∀ ls m a w,tN P c Q ls m a w->∃ rest,findLabel c m=some rest/\∃ e a' w',Q e a' w'/\Arrives P (lone (b.at a (.code rest :: .inScope c :: k)) cs w) b k cs e a' w':=by
  intro ls
  induction ls with
  | nil=>intro m a w h;exact h.elim
  | cons l ls ih =>
    rintro m a w (⟨rfl,rest,hl,hw⟩ | ⟨_,h⟩)
    ·refine ⟨rest,hl,?_⟩;obtain ⟨e,a₁,w₁,hq,harr⟩:=hw b (.inScope c :: k) cs;cases e with
     | normal=>exact ⟨.normal,a₁,w₁,hq,Steps.trans harr (.one step_inScope)⟩
     | exit id=>exact ⟨.exit id,a₁,w₁,hq,fun k' hk=>harr k' (by simp [exitTo,hk])⟩
     | goto l' =>
       obtain ⟨rest',hl',e₂,a₂,w₂,hq₂,harr₂⟩:=ih l' a₁ w₁ hq;exact ⟨e₂,a₂,w₂,hq₂,.of_steps (harr _ (hg _ _ hl')) harr₂⟩
     | ret=>exact ⟨_,a₁,w₁,hq,harr⟩
     | panic ch=>exact ⟨_,a₁,w₁,hq,harr⟩
     | outgrown=>exact ⟨_,a₁,w₁,hq,harr⟩
    ·exact ih m a w h
 obtain ⟨e,a₁,w₁,hq,harr⟩:=first b (.inScope c :: k) cs
 cases e with
 | normal=>exact ⟨.normal,a₁,w₁,hq,.head step_scope (Steps.trans harr (.one step_inScope))⟩
 | exit id=>exact ⟨.exit id,a₁,w₁,hq,fun k' hk=>.head step_scope (harr k' (by simp [exitTo,hk]))⟩
 | goto l' =>
   obtain ⟨rest',hl',e₂,a₂,w₂,hq₂,harr₂⟩:=key _ l' a₁ w₁ hq;exact ⟨e₂,a₂,w₂,hq₂,.of_steps (.head step_scope (harr _ (hg _ _ hl'))) harr₂⟩
 | ret=>exact ⟨_,a₁,w₁,hq,.of_steps (.one step_scope) harr⟩
 | panic ch=>exact ⟨_,a₁,w₁,hq,.of_steps (.one step_scope) harr⟩
 | outgrown=>exact ⟨_,a₁,w₁,hq,.of_steps (.one step_scope) harr⟩
theorem jt {P:Program} {a:Act} {w:World} {Q:Exit->Act->World->Prop} {c:Code} (ls:List Nat)
 (first:∀ F:List Nat->Nat->Act->World->Prop,(∀ l ls a w rest,findLabel c l=some rest->rest.wp P (cB (F ls) Q) a w->F (l :: ls) l a w)->(∀ l m ls a w,m≠l->F ls m a w->F (l :: ls) m a w)->c.wp P (cB (F ls) Q) a w):(Code.scope c).wp P Q a w :=
 tO ls (first (tN P c Q) (fun _ _ _ _ _ h hw=>At h hw) (fun _ _ _ _ _ h hw=>EB h hw))
theorem iR {P:Program} {a:Act} {w:World} {Q:Exit->Act->World->Prop} {c r0 r1:Code} (J0 J1:Act->World->Prop) (μ:Act->World->Nat)
 (h0:findLabel c 0=some r0) (h1:findLabel c 1=some (.seq .skip r1))
 (first:(∀ a w,J1 a w->r1.wp P (cB (fun l a w=>match l with | 0=>J0 a w | 1=>J1 a w | _=>False) Q) a w)->c.wp P (cB (fun l a w=>match l with | 0=>J0 a w | 1=>J1 a w | _=>False) Q) a w)
 (pass1:∀ a w,J1 a w->r1.wp P (cB (fun l a' w'=>match l with | 0=>J0 a' w' | 1=>J1 a' w'/\μ a' w'<μ a w | _=>False) Q) a w)
 (pass0:∀ a w,J0 a w->r0.wp P (cB (fun _ _ _=>False) Q) a w):(Code.scope c).wp P Q a w:=by
 refine gp (fun l a w=>match l with | 0=>J0 a w | 1=>J1 a w | _=>False) (fun l a w=>match l with | 1=>μ a w+1 | _=>0) ?_ (first fun a w h=>?_) ?_
 ·intro l a w h
  match l,h with
  | 0,_=>exact ⟨_,h0⟩
  | 1,_=>exact ⟨_,h1⟩
 ·refine wp_mono (pass1 a w h) ?_;intro e a' w' he;cases e with
  | goto l'=>match l',he with
    | 0,he=>exact he
    | 1,he=>exact he.1
  | _=>exact he
 ·intro l rest hl a w hJ
  match l,hJ with
  | 1,hJ =>
    rw [h1] at hl;injection hl with hl;subst hl
    refine wp_seq (wp_skip (wp_mono (pass1 a w hJ) ?_));intro e a' w' he;cases e with
    | goto l'=>match l',he with
      | 0,he=>exact ⟨he,Nat.succ_pos _⟩
      | 1,he=>exact ⟨he.1,Nat.succ_lt_succ he.2⟩
    | _=>exact he
  | 0,hJ =>
    rw [h0] at hl;injection hl with hl;subst hl
    refine wp_mono (pass0 a w hJ) ?_;intro e a' w' he;cases e with
    | goto l'=>exact he.elim
    | _=>exact he
theorem Jj {W w1:World} (hb:Below W.heap.size W w1):(∀ b o,b<W.heap.size->w1.cell? ⟨b,o,none⟩=W.cell? ⟨b,o,none⟩)/\(∀ b o,b<W.heap.size->w1.frozen? ⟨b,o,none⟩=W.frozen? ⟨b,o,none⟩) :=
 ⟨fun b o h=>hb.cell (p:=⟨b,o,none⟩) h,fun b o h=>hb.frozen (p:=⟨b,o,none⟩) h⟩
theorem keep {W w1:World} (hb:Below W.heap.size W w1) {b o:Nat} {v:Value} (h:W.cell? ⟨b,o,none⟩=some v):w1.cell? ⟨b,o,none⟩=some v:=by
 rw [(Jj hb).1 _ _ (World.block_lt_of_cell? W _ h)];exact h
theorem aP {w W w1:World} (h:Below w.heap.size w W) (hb:Below W.heap.size W w1):Below w.heap.size w w1:=h.trans (hb.mono h.size)
theorem Gm {W:World} {a:Addr} {v:Value} (h:W.cell? a=some v) (o:Obj):(W.alloc o).cell? a=some v:=by
 rw [World.cell?_alloc_some W a o (by rw [h];rfl)];exact h
theorem cF {w w':World} (hb:Below w.heap.size w w') {q:Addr} {v:Value} (hq:w.cell? q=some v):w'.cell? q=some v:=by
 rw [hb.cell (World.block_lt_of_cell? w q hq)];exact hq
theorem EC {B:Nat} {w w2:World} (h:Below B w w2) (n:Nat):Below B w (w2.drewN n):=⟨h.os,h.tape,h.output,h.size,h.block⟩
abbrev i64 (l:Int):Prop := -2 ^ 63<=l/\l<=2 ^ 63
theorem au {α:Type} {l:List α} {k:Nat} {s:α} (h:l[k]?=some s):l.take (k+1)=l.take k++[s]:=by
 rw [List.take_add_one,h];rfl
theorem aj {a b:Bool} (h:a=b):Ending.returned (.bool a)=.returned (.bool b):=by rw [h]
theorem kX {k:IntKind} {a b:Int} (h:a=b):Ending.returned (.int k a)=.returned (.int k b):=by rw [h]
theorem ah {W:World} {r i:Nat} {C:Array Value} {t:TypeId} (h:W.heap[r]?=some (.cells C t (0,0))) (u:Value):(W.setCell ⟨r,i,none⟩ u).heap[r]?=some (.cells (C.setIfInBounds i u) t (0,0)):=by
 simp [World.setCell,Array.getElem?_modify,h]
theorem GT {W:World} {base e sz n:Nat} {v:Value} {xs:List Value} (h:W.ownsRow base e sz v n xs) {a:Addr} (u:Value) (hne:v.ownBlock≠some a.block):(W.setCell a u).ownsRow base e sz v n xs :=
 h.kept (row:=some a.block) ⟨rfl,rfl,rfl,Hb,fun k hk hne=>by
  rw [World.setCell];simp only [Array.getElem?_modify];rw [if_neg (fun e=>hne (by rw [e]))]⟩ (.inr hne)
theorem af {W:World} {r:Nat} {C:Array Value} {t:TypeId} {fr:Nat × Nat} (h:W.heap[r]?=some (.cells C t fr)) (i:Nat):W.cell? ⟨r,i,none⟩=C[i]?:=cell_of_row W r i C t fr h
theorem az {W:World} {r:Nat} {C:Array Value} {t:TypeId} (h:W.heap[r]?=some (.cells C t (0,0))) (i:Nat):W.frozen? ⟨r,i,none⟩=false:=by simp [World.frozen?,h]
theorem ai {W:World} {g:Nat} {o:Obj} (h:W.heap[g]?=some o):g<W.heap.size:=by
 rcases Nat.lt_or_ge g W.heap.size with h1 | h1
 ·exact h1
 ·rw [Array.getElem?_eq_none h1] at h;cases h
theorem iS (a:Addr) (i j:Nat):(a.add i).add j=a.add (i+j):=by
 unfold Addr.add;by_cases hi:i=0 <;> by_cases hj:j=0 <;> simp [hi,hj,Nat.add_assoc]
theorem fP (g i:Nat):(⟨g,0,none⟩:Addr).add i=⟨g,i,none⟩:=by unfold Addr.add;split <;> simp_all
theorem kY (a:Addr) (k:Nat):a.add (k+1)=⟨a.block,a.off+(k+1),none⟩:=by unfold Addr.add;simp
def dD (w:World) (A:Option Addr) (xs:List Int):Prop:=∀ i x,xs[i]?=some x->∃ a,A=some a/\w.cell? (a.add i)=some (.int .u8 x)
def ax (xs:List Int):Prop:=∀ x∈xs,0<=x/\x<256
def Bs (xs:List Int):List Value:=xs.map (.int .u8)
theorem ku {xs:List Int} {i:Nat} {x:Int} (h:xs[i]?=some x):(Bs xs)[i]?=some (.int .u8 x):=by unfold Bs;rw [List.getElem?_map,h];rfl
theorem ar (xs:List Int):(Bs xs).length=xs.length:=by unfold Bs;simp
theorem dD.keep {w w':World} {A:Option Addr} {xs:List Int} (h:dD w A xs) (hb:Below w.heap.size w w'):dD w' A xs:=fun i x hi =>
 let ⟨a,e,hs⟩:=h i x hi;⟨a,e,cF hb hs⟩
theorem dD.alloc {w:World} {A:Option Addr} {xs:List Int} (h:dD w A xs) (o:Obj):dD (w.alloc o) A xs:=fun i x hi =>
 let ⟨a,e,hs⟩:=h i x hi;⟨a,e,Gm hs o⟩
theorem dD.take {w:World} {A:Option Addr} {xs:List Int} (h:dD w A xs) (k:Nat):dD w A (xs.take k):=fun i x hi=>h i x (by
 rw [List.getElem?_take] at hi;split at hi;exact hi;cases hi)
theorem dS {W:World} {r:Nat} {C:Array Value} {t:TypeId} {fr:Nat × Nat} {bs:List Int} (h:W.heap[r]?=some (.cells C t fr)) (hc:C.toList=Bs bs):dD W (some ⟨r,0,none⟩) bs:=by
 intro i x hi;refine ⟨_,rfl,?_⟩;rw [fP,cell_of_row _ _ _ _ _ _ h,<- Array.getElem?_toList,hc];exact ku hi
theorem bN {W:World} {B:Nat} {t:TypeId} {sv:Value} {n:Nat} {bs:List Int} (h:W.ownsRow B t 1 sv n (Bs bs)) (hn:bs.length=n) :
 ∃ A d,sv=.slice A bs.length d/\bs.length<=d/\d<=9223372036854775807/\dD W A bs:=by
 subst hn;rcases h.2 with ⟨rfl,h0⟩ | ⟨g,cap,cur,rfl,hb,hg,hn',hm,hs,ht⟩
 ·refine ⟨none,0,by rw [h0],Ha,Ha,fun i s hi=>?_⟩;rw [List.length_eq_zero_iff.1 h0] at hi;cases hi
 ·refine ⟨some ⟨g,0,none⟩,cap,rfl,hn',by simp only [maxLen] at hm;omega,fun i s hi=>⟨_,rfl,?_⟩⟩;exact h.cells (g:=g) rfl _ _ (ku hi)
def ED (A:Option Addr) (c k:Nat):Option Addr:=if c=k then A else A.map (·.add (k*1))
theorem Cx {x y:Int} (hx:0<=x/\x<256) (hy:0<=y/\y<256) (h:UInt8.ofNat x.toNat=UInt8.ofNat y.toNat):x=y:=by
 have:=congrArg UInt8.toNat h;simp only [UInt8.toNat_ofNat'] at this;omega
theorem dt (xs:List Int):(strOfNums xs).toList=xs.map fun n=>UInt8.ofNat n.toNat:=by
 rw [ByteArray.toList_eq];rfl
theorem j0:∀ {xs ys:List Int},ax xs->ax ys->xs.map (fun n=>UInt8.ofNat n.toNat)=ys.map (fun n=>UInt8.ofNat n.toNat)->xs=ys
 | [],[],_,_,_=>rfl
 | [],_ :: _,_,_,h=>by simp at h
 | _ :: _,[],_,_,h=>by simp at h
 | x :: xs,y :: ys,hx,hy,h=>by
   rw [List.map_cons,List.map_cons] at h;injection h with h1 h2
   rw [Cx (hx x Hb) (hy y Hb) h1,j0 (fun v hv=>hx v (by simp [hv])) (fun v hv=>hy v (by simp [hv])) h2]
theorem kZ {xs ys:List Int} (hx:ax xs) (hy:ax ys):((strOfNums xs).toList==(strOfNums ys).toList)=decide (xs=ys):=by
 rw [dt,dt,Bool.eq_iff_iff];simp only [beq_iff_eq,decide_eq_true_eq];exact ⟨j0 hx hy,fun h=>by rw [h]⟩
theorem dY {A:Option Addr} {xs:List Int} {n c:Nat} {w:World} (h:dD w A xs) (hn:xs.length=n):(convert 22 9 (.slice A n c)).run Tryz.prog w=.ok (.string (strOfNums xs)) w:=by
 rcases A with _ | a
 ·have:xs=[]:=by
   cases xs with
   | nil=>rfl
   | cons x l=>obtain ⟨a,e,_⟩:=h 0 x rfl;cases e
  subst this;rw [run_convert_bytes_nil w 22 5 Tryz.underlying22 Tryz.underlying5 n c 9 Tryz.underlying9];rfl
 ·have hl:(loadCells a n).run Tryz.prog w=.ok (Bs xs).toArray w:=by
   have:=run_loadCells_list (P:=Tryz.prog) w a (Bs xs) (fun j v hj=>by
    unfold Bs at hj;rw [List.getElem?_map] at hj;obtain ⟨x,hx,rfl⟩:=Option.map_eq_some_iff.1 hj;obtain ⟨a',e,hc⟩:=h j x hx;injection e with e;subst e;exact hc)
   have e:(Bs xs).length=n:=by rw [ar];exact hn
   rw [e] at this;exact this
  rw [run_convert_bytes_string w 22 9 5 _ n c Tryz.underlying22 Tryz.underlying5 Tryz.underlying9,run_bytesToString w _ n c xs hl,foldl_push_bytes];simp [strOfNums,ByteArray.empty,ByteArray.emptyWithCapacity];rfl
section
variable {H:Type} {enc:TypeId × Value->H} {w:World} {base:Nat} {spare:Nat->Bool} {held:Bool}
end
theorem iT:(Tryz.prog.info? 5).map (fun i=>(i.zero,i.size,i.bytes))=some (some (.int .u8 0),1,1):=Hc
theorem gQ (l:List Int):∀ u∈Bs l,u.oneCell'=true:=by
 intro u hu;unfold Bs at hu;obtain ⟨x,_,rfl⟩:=List.mem_map.1 hu;rfl
theorem iP (l m:List Int):Bs (l++m)=Bs l++Bs m:=List.map_append
theorem dM {W W':World} (hb:Below W.heap.size W W'):W.grownBy W' none:=⟨hb.os,hb.tape,hb.output,hb.size,fun k hk _=>hb.block k hk⟩
theorem hU {W W':World} {base e sz n:Nat} {v:Value} {xs:List Value} (h:W.ownsRow base e sz v n xs) (hb:Below W.heap.size W W'):W'.ownsRow base e sz v n xs :=
 h.kept (dM hb) (by cases v.ownBlock <;> simp)
theorem GU {w W W':World} {v:Value} {e sz n:Nat} {xs:List Value} (hB:Below w.heap.size w W) (hown:W.ownsRow w.heap.size e sz v n xs) (hg:W.grownBy W' v.ownBlock):Below w.heap.size w W' :=
 hB.grown hg hB.size (fun k hk=>(hown.lt k hk).1)
theorem EE (W:World) (base:Nat) (t:TypeId) (n:Nat) (C:Array Value) (xs:List Value) (hb:base<=W.heap.size) (hn:C.size=n) (hm:n<=maxLen) (hc:C.toList=xs) :
 (W.alloc (.cells C t)).ownsRow base t 1 (.slice (some ⟨W.heap.size,0,none⟩) n n) n xs:=by
 subst hc;refine ⟨by simp [hn],Or.inr ⟨W.heap.size,n,C,rfl,hb,heap_alloc_new W _,Nat.le_refl _,hm,Ha,?_⟩⟩;exact List.take_of_length_le (by simp [hn])
theorem ia (w:World) (ty:TypeId) (base:Nat) (v:Value) (n:Nat) (xs:List Int) (hown:w.ownsRow base 5 1 v n (Bs xs)) (A:Option Addr) (m c:Nat) (ys:List Int) (hy:dD w A ys) (hm:ys.length=m)
 (h63:n+m<=1000000) (hbase:base<=w.heap.size) :
 ∃ v' w',(Builtin.append_ #[22,22] ty #[v,.slice A m c]).run Tryz.prog w=.ok v' w'/\w'.ownsRow base 5 1 v' (n+m) (Bs (xs++ys))/\w.grownBy w' v.ownBlock /\
  (v'.ownBlock=v.ownBlock\/v'.ownBlock=some w.heap.size):=by
 obtain ⟨i0,hi,hz0,hz1,hz2⟩:=info_parts iT;rcases A with _ | a
 ·have hys:ys=[]:=by
   cases ys with
   | nil=>rfl
   | cons y l=>obtain ⟨a,e,_⟩:=hy 0 y rfl;cases e
  subst hys;subst hm;refine ⟨v,w,?_,by simpa using hown,World.grownBy.refl w _,.inl rfl⟩;rcases hown.2 with ⟨rfl,rfl⟩ | ⟨g,cap,cur,rfl,_,_,hnc,_⟩
  ·simp [Builtin.append_,run_underlying Tryz.underlying22,sizeOf,typeInfo,hi,Builtin.lenOf,Builtin.firstCells]
  ·simp [Builtin.append_,run_underlying Tryz.underlying22,sizeOf,typeInfo,hi,Builtin.lenOf,Builtin.firstCells,hnc,storeCells]
 ·obtain ⟨v',w',hr,h2,h3,h4,h5⟩:=run_append_own_at (P:=Tryz.prog) w base 22 ty 5 i0 (.int .u8 0) 1 1 Tryz.underlying22 hi hz0 hz1 hz2 rfl Hd v n _ hown a m c (Bs ys) (by rw [ar];omega)
   (fun j u hj=>by
     unfold Bs at hj;rw [List.getElem?_map] at hj;obtain ⟨x,hx,rfl⟩:=Option.map_eq_some_iff.1 hj;obtain ⟨a',e,hc⟩:=hy j x hx;injection e with e;subst e;exact hc) (gQ _) (by simp only [maxLen];omega) Ha hbase
  exact ⟨v',w',hr,by rw [iP];exact h2,h3,h5⟩
theorem xE (w:World) {o:Oper} {a:Act} {K:Act->World->Prop} {Q:Exit->Act->World->Prop} (s x:Operand)
 (ho:o.op=.call { callee:=.builtin .append,args:=#[s,x],argTypes:=#[22,22] })
 (base:Nat) (v:Value) (n:Nat) (xs:List Int) (hs:a.eval s=v) (hown:w.ownsRow base 5 1 v n (Bs xs)) (A:Option Addr) (m c:Nat) (ys:List Int) (hx:a.eval x=.slice A m c) (hy:dD w A ys) (hm:ys.length=m)
 (h63:n+m<=1000000) (hbase:base<=w.heap.size)
 (h:∀ v' w',w'.ownsRow base 5 1 v' (n+m) (Bs (xs++ys))->w.grownBy w' v.ownBlock->(v'.ownBlock=v.ownBlock\/v'.ownBlock=some w.heap.size)->K (a.put o.dst v') w'):o.wp Tryz.prog a w K Q:=by
 obtain ⟨v',w',hr,h2,h3,h4⟩:=ia w o.type base v n xs hown A m c ys hy hm h63 hbase;unfold Oper.wp execOp;simp only [ho,resolve,invoke,builtin,Sem.run_bind,Sem.run_pure,Result.andThen_ok,List.map_toArray,List.map_cons,List.map_nil,hs,hx,hr];exact h v' w' h2 h3 h4
theorem bU (w:World) {ops:Array Oper} {rest:List Oper} {o:Oper} {a:Act} {Q:Exit->Act->World->Prop} (hgd:o.guard=none) (s x:Operand)
 (ho:o.op=.call { callee:=.builtin .append,args:=#[s,x],argTypes:=#[22,22] })
 (base:Nat) (v:Value) (n:Nat) (xs:List Int) (hs:a.eval s=v) (hown:w.ownsRow base 5 1 v n (Bs xs)) (A:Option Addr) (m c:Nat) (ys:List Int) (hx:a.eval x=.slice A m c) (hy:dD w A ys) (hm:ys.length=m)
 (h63:n+m<=1000000) (hbase:base<=w.heap.size)
 (h:∀ v' w',w'.ownsRow base 5 1 v' (n+m) (Bs (xs++ys))->w.grownBy w' v.ownBlock->(v'.ownBlock=v.ownBlock\/v'.ownBlock=some w.heap.size)->wpList Tryz.prog ops Q rest (a.put o.dst v') w'):wpList Tryz.prog ops Q (o :: rest) a w :=
 wpList_plain hgd fun _ hK=>xE w s x ho base v n xs hs hown A m c ys hx hy hm h63 hbase fun v' w' h2 h3 h4=>hK _ _ (h v' w' h2 h3 h4)
theorem Cy (xs:List Int) (k:Nat) (x:Int):(Bs xs).set k (.int .u8 x)=Bs (xs.set k x):=by unfold Bs;rw [List.map_set]
def be (n:Nat):Nat->List Int
 | 0=>[]
 | s+1=>((n/256 ^ s%256:Nat):Int) :: be n s
theorem av (n:Nat):∀ s,(be n s).length=s
 | 0=>rfl
 | s+1=>by show (be n s).length+1=s+1;rw [av n s]
theorem cm (n:Nat):∀ s,ax (be n s)
 | 0=>fun x hx=>by cases hx
 | s+1=>fun x hx=>by
   rcases List.mem_cons.1 hx with rfl | h
   ·have:=Nat.mod_lt (n/256 ^ s) (show 0<256 by omega);omega
   ·exact cm n s x h
theorem zg {a b:Nat} (ha:a<65536) (hb:b<65536) (h:be a 2=be b 2):a=b:=by
 unfold be be be at h;simp only [List.cons.injEq,Nat.pow_succ,Nat.pow_zero,Nat.one_mul,Nat.div_one,and_true] at h;omega
theorem xF (n:Nat):be n 4=[((n/16777216%256:Nat):Int),((n/65536%256:Nat):Int),((n/256%256:Nat):Int),((n/1%256:Nat):Int)]:=rfl
theorem Cz (n:Nat):be n 2=[((n/256%256:Nat):Int),((n/1%256:Nat):Int)]:=rfl
theorem tP {a b:Nat} (ha:a<4294967296) (hb:b<4294967296) (h:be a 4=be b 4):a=b:=by
 rw [xF,xF] at h;have h1:=Int.ofNat.inj (List.cons.inj h).1;have h2:=Int.ofNat.inj (List.cons.inj (List.cons.inj h).2).1;have h3:=Int.ofNat.inj (List.cons.inj (List.cons.inj (List.cons.inj h).2).2).1;have h4:=Int.ofNat.inj (List.cons.inj (List.cons.inj (List.cons.inj (List.cons.inj h).2).2).2).1;clear h;rw [Nat.div_one,Nat.div_one] at h4;have ea:=Nat.div_add_mod a 256;have eb:=Nat.div_add_mod b 256;have ea2:a/65536=a/256/256:=by rw [Nat.div_div_eq_div_mul]
 have eb2:b/65536=b/256/256:=by rw [Nat.div_div_eq_div_mul]
 have ea3:a/16777216=a/256/256/256:=by rw [Nat.div_div_eq_div_mul,Nat.div_div_eq_div_mul]
 have eb3:b/16777216=b/256/256/256:=by rw [Nat.div_div_eq_div_mul,Nat.div_div_eq_div_mul]
 have la:a/16777216<256:=Nat.div_lt_of_lt_mul ha;have lb:b/16777216<256:=Nat.div_lt_of_lt_mul hb;rw [Nat.mod_eq_of_lt la,Nat.mod_eq_of_lt lb,ea3,eb3] at h1;rw [ea2,eb2] at h2;generalize a/256=a1 at *;generalize b/256=b1 at *;have f1:=Nat.div_add_mod a1 256;have f2:=Nat.div_add_mod b1 256;have f3:=Nat.div_add_mod (a1/256) 256;have f4:=Nat.div_add_mod (b1/256) 256;rw [h1,h2] at f3;have f5:a1/256=b1/256:=f3.symm.trans f4;rw [f5,h3] at f1;have f6:a1=b1:=f1.symm.trans f2;rw [f6,h4] at ea;exact ea.symm.trans eb
theorem ax.append {xs ys:List Int} (hx:ax xs) (hy:ax ys):ax (xs++ys):=fun x h=>(List.mem_append.1 h).elim (hx x) (hy x)
theorem rF {α:Type} (l:List α) (k:Nat) (x:α) (h:k<l.length):(l.set k x).drop k=x :: l.drop (k+1):=by
 induction l generalizing k with
 | nil=>cases h
 | cons y l ih =>
   cases k with
   | zero=>rfl
   | succ k=>exact ih k (by simpa using h)
theorem ak (W:World) (o:Obj):(W.alloc o).heap.size=W.heap.size+1:=by show (W.heap.push o).size=_;simp
theorem EF (v m:Nat):v/256 ^ m/256=v/256 ^ (m+1):=by rw [Nat.div_div_eq_div_mul,Nat.pow_succ]
theorem EG (v n:Nat) (w:World) (hv:v<18446744073709551616) (hn:n<=8) :
 Calls Tryz.prog 128 #[.int .u64 v,.int .i64 n] w fun e w'=>e=.returned (.slice (some ⟨w.heap.size,0,none⟩) n n)/\(∃ C,w'.heap[w.heap.size]?=some (.cells C 5 (0,0))/\C.toList=Bs (be v n))/\Below w.heap.size w w':=by
 obtain ⟨i0,hi,hz0,hz1,hz2⟩:=info_parts iT;have hmk:=fun w:World=>run_make (P:=Tryz.prog) w 22 5 i0 _ Tryz.underlying22 hi hz0 .i64 .i64 (n:Int) (n:Int) Ha Ha (by rw [hz2];omega) Ha;generalize hC:madeCells (Value.int .u8 0).cells ((n:Int).toNat*i0.size)=C0 at hmk;have HC:Hid (C0.size=n):=by rw [<- hC,size_madeCells,hz1];unfold Hid;simp
 rw [show ((n:Int)).toNat=n by omega] at hmk;clear hC hi hz0 hz1 hz2;have HB0:Hid (∀ C,Below w.heap.size w (w.alloc (Obj.cells C 5))):=fun C=>(Below.refl _ _).alloc (Nat.le_refl _) _;go_enter Tryz.func128,Tryz.ntmps128;go_wp2;have hblk0:=heap_alloc_new w (Obj.cells C0 5);have hbel0:=HB0.out C0;have HV:=He hv;generalize w.alloc (Obj.cells C0 5)=W0 at *;have HS:Hid (w.heap.size=w.heap.size):=rfl;generalize hg:w.heap.size=g at *;clear hmk HB0 hv
 go_loopw [0,6] (fun z i wr=>∃ (j:Nat) (C:Array Value) (x:Nat),i=.int .i64 ((j:Int)-1)/\z=.int .u64 x/\j<=n/\x=v/256 ^ (n-j)/\wr.heap[g]?=some (.cells C 5 (0,0))/\C.size=n/\C.toList.drop j=Bs (be v (n-j))/\Below g w wr) (fun _ i _=>(intOf i+1).toNat)
 case atStart =>
  refine ⟨n,C0,v,rfl,rfl,Nat.le_refl _,Hb,hblk0,HC.out,?_,hbel0⟩;rw [Nat.sub_self,List.drop_of_length_le (by rw [Array.length_toList,HC.out];omega)];rfl
 case round =>
  obtain ⟨j,C,x,rfl,rfl,hj,hx,hblk,hsz,hl,hbel⟩:=hrel;have HX:=He hx;have HBK:=He hblk;have HL:=He hl;have hxv:x<18446744073709551616:=by rw [hx];exact Nat.lt_of_le_of_lt (Nat.div_le_self _ _) HV.out
  clear hx hblk hl hblk0;by_cases hj0:j=0
  ·subst hj0;go_wp2;go_ret;refine ⟨rfl,⟨C,HBK.out,?_⟩,hbel⟩;have h:=HL.out;rw [List.drop_zero,Nat.sub_zero] at h;exact h
  ·obtain ⟨k,rfl⟩:∃ k,j=k+1:=⟨j-1,Ha⟩
   have hk:((k+1:Nat):Int)-1=k:=Ha;rw [hk];obtain ⟨u,hu⟩:∃ u,C[k]?=some u:=⟨_,Array.getElem?_eq_getElem (by rw [hsz];omega)⟩
   have c0:wr.cell? ⟨g,k,none⟩=some u:=(af HBK.out k).trans hu;have f0:wr.frozen? ⟨g,k,none⟩=false:=az HBK.out k;clear hu hk;go_wp2
   go_roundw
   case rel =>
    refine ⟨k,_,x/256,by go_num,by go_num,Ha,?_,ah HBK.out _,by simp [hsz],?_,hbel.setCell (Nat.le_refl _) _⟩
    ·rw [HX.out,EF,show n-(k+1)+1=n-k by omega]
    ·rw [Array.toList_setIfInBounds,show n-k=(n-(k+1))+1 by omega];show _=Bs (((v/256 ^ (n-(k+1))%256:Nat):Int) :: be v (n-(k+1)));rw [<- HX.out];rw [rF _ _ _ (by simp [hsz];omega),HL.out];unfold Bs;rw [List.map_cons]
     congr 1
     try simp
   case measure=>simp [intOf]
def aC (w:World) (base:Nat) (v:Value) (xs:List Int):Prop:=∃ q C,v=.slice (some ⟨q,0,none⟩) xs.length xs.length/\base<=q/\w.heap[q]?=some (.cells C 5 (0,0))/\C.toList=Bs xs
theorem aC.size {C:Array Value} {xs:List Int} (h:C.toList=Bs xs):C.size=xs.length:=by rw [<- Array.length_toList,h,ar]
theorem aC.own {w:World} {base:Nat} {v:Value} {xs:List Int} (h:aC w base v xs) (hm:xs.length<=maxLen):w.ownsRow base 5 1 v xs.length (Bs xs):=by
 obtain ⟨q,C,rfl,hb,hq,hc⟩:=h;exact ⟨by rw [ar];omega,Or.inr ⟨q,xs.length,C,rfl,hb,hq,Nat.le_refl _,hm,by rw [aC.size hc];omega,by rw [hc];exact List.take_of_length_le (by rw [ar];omega)⟩⟩
theorem aC.byt {w:World} {base:Nat} {v:Value} {xs:List Int} (h:aC w base v xs):∃ q,v=.slice (some ⟨q,0,none⟩) xs.length xs.length/\dD w (some ⟨q,0,none⟩) xs:=by
 obtain ⟨q,C,rfl,hb,hq,hc⟩:=h;exact ⟨q,rfl,dS hq hc⟩
theorem aC.grown {w w':World} {base:Nat} {v:Value} {xs:List Int} (h:aC w base v xs) (hg:w.grownBy w' none):aC w' base v xs:=by
 obtain ⟨q,C,rfl,hb,hq,hc⟩:=h;exact ⟨q,C,rfl,hb,by rw [hg.block q (ai hq) Hb];exact hq,hc⟩
theorem aC.mono {w:World} {base base':Nat} {v:Value} {xs:List Int} (h:aC w base v xs) (hb':base'<=base):aC w base' v xs:=by
 obtain ⟨q,C,rfl,hb,hq,hc⟩:=h;exact ⟨q,C,rfl,Nat.le_trans hb' hb,hq,hc⟩
theorem lc (v n:Nat) (w:World) (hv:v<18446744073709551616) (hn:n<=8) :
 Calls Tryz.prog 128 #[.int .u64 v,.int .i64 n] w fun e w'=>∃ u,e=.returned u/\aC w' w.heap.size u (be v n)/\Below w.heap.size w w' :=
 (EG v n w hv hn).mono fun e w' ⟨he,⟨C,hq,hc⟩,hb⟩=>⟨_,he,⟨_,C,by rw [av],Nat.le_refl _,hq,hc⟩,hb⟩
theorem Au (v n:Nat) (w:World) (hv:v<18446744073709551616) (hn:n<=8) :
 Calls Tryz.prog 128 #[.int .u64 v,.int .i64 n] w fun e w'=>∃ v',e=.returned v'/\w'.ownsRow w.heap.size 5 1 v' n (Bs (be v n))/\Below w.heap.size w w' :=
 (lc v n w hv hn).mono fun e w' ⟨u,he,hf,hb⟩=>⟨u,he,by have:=hf.own (by rw [av];simp only [maxLen];omega);rwa [av] at this,hb⟩
def aB (xs:List Int):Nat:=xs.foldl (fun n x=>n*256+x.toNat) 0
theorem jJ (xs:List Int) (x:Int):aB (xs++[x])=aB xs*256+x.toNat:=by unfold aB;rw [List.foldl_append];rfl
theorem iG:∀ (s:Nat) (xs:List Int),xs.length=s->ax xs->aB xs<256 ^ s:=by
 intro s
 induction s with
 | zero=>intro xs h _;rw [List.length_eq_zero_iff.1 h];unfold aB;simp
 | succ s ih =>
   intro xs h hB;rcases List.eq_nil_or_concat xs with rfl | ⟨l,x,rfl⟩
   ·cases h
   ·rw [List.concat_eq_append] at *;rw [jJ,Nat.pow_succ];have h1:=ih l (by simp at h;exact h) (fun y hy=>hB y (by simp [hy]));have h2:=hB x Hb;omega
theorem CA (n x:Nat) (hx:x<256):∀ s,be (n*256+x) (s+1)=be n s++[(x:Int)]
 | 0=>by
   show [(((n*256+x)/256 ^ 0%256:Nat):Int)]=[(x:Int)]
   rw [Nat.pow_zero,Nat.div_one,show (n*256+x)%256=x by omega]
 | s+1=>by
   show (((n*256+x)/256 ^ (s+1)%256:Nat):Int) :: be (n*256+x) (s+1)=(((n/256 ^ s%256:Nat):Int) :: be n s)++[(x:Int)]
   rw [CA n x hx s,Nat.pow_succ,Nat.mul_comm (256 ^ s) 256,<- Nat.div_div_eq_div_mul,show (n*256+x)/256=n by omega];rfl
theorem EH (n s:Nat):be n (s+1)=be (n/256) s++[((n%256:Nat):Int)]:=by
 have h:=CA (n/256) (n%256) (Nat.mod_lt _ Ha) s
 rwa [show n/256*256+n%256=n by omega] at h
theorem tQ:∀ (s n:Nat),n<256 ^ s->aB (be n s)=n
 | 0,n,h=>by simp at h;subst h;rfl
 | s+1,n,h=>by
   rw [EH,jJ,tQ s (n/256) (by rw [Nat.pow_succ] at h;exact Nat.div_lt_of_lt_mul Ha),Int.toNat_natCast];omega
theorem zh (a y:Nat) (ha:a<16777216) (hy:y<256):bits .or .u32 ((a:Int)*256) (y:Int)=((a*256+y:Nat):Int):=by
 have h:=u32_or_nat (a*256) y Ha Ha;have h2:=Nat.two_pow_add_eq_or_of_lt (i:=8) (b:=y) Ha a;rw [show (2 ^ 8*a:Nat)=a*256 by omega] at h2;rw [<- h2] at h;rw [<- h,Int.natCast_mul];rfl
theorem kv (A:Option Addr) (xs:List Int) (n d:Nat) (w:World) (hn:xs.length=n) (hl:n<=4) (hB:ax xs) (hy:dD w A xs) :
 Calls Tryz.prog 126 #[.slice A n d] w fun e w'=>e=.returned (.int .u64 (aB xs))/\w=w':=by
 have HY:=He hy;have HN:=He hn;have HB:=He hB;clear hn hB hy;go_enter Tryz.func126,Tryz.ntmps126;go_wp2
 go_loop [3,4] (fun z i=>∃ k:Nat,k<=n/\i=.int .i64 k/\z=.int .u64 (aB (xs.take k):Nat)) (fun _ i=>n-(intOf i).toNat)
 case atStart=>exact ⟨0,Nat.zero_le _,rfl,rfl⟩
 case round =>
  obtain ⟨k,hk,rfl,rfl⟩:=hrel;by_cases hlt:k<n
  ·obtain ⟨x,hx⟩:∃ x,xs[k]?=some x:=⟨_,List.getElem?_eq_getElem (by rw [HN.out];exact hlt)⟩
   obtain ⟨ad,rfl,hc0⟩:=HY.out k x hx;have hxb:=HB.out x (List.mem_of_getElem? hx);obtain ⟨y,rfl⟩:∃ y:Nat,x=(y:Int):=⟨x.toNat,Ha⟩
   have hyb:y<256:=Ha;have HS:Hid (aB (xs.take (k+1))=aB (xs.take k)*256+y):=by
    unfold Hid;rw [au hx,jJ,Int.toNat_natCast]
   have hv:=iG k (xs.take k) (by rw [List.length_take,HN.out];omega) (fun z hz=>HB.out z (List.mem_of_mem_take hz));have hv2:256 ^ k<=256 ^ 3:=Nat.pow_le_pow_right Ha Ha;have hv3:aB (xs.take k)<16777216:=Ha;clear hx hxb hv hv2;generalize aB (xs.take k)=a at *;have wy:IntKind.u64.wrap (y:Int)=y:=IntWalk.u64_in _ Ha;have wa:IntKind.u64.wrap ((a:Int)*256)=(a:Int)*256:=IntWalk.u64_in _ Ha;have wb:IntKind.u64.wrap ((a:Int)*256+y)=(a:Int)*256+y:=IntWalk.u64_in _ Ha;go_wp2
   go_round
   case rel=>exact ⟨k+1,Ha,by go_num,by rw [HS.out];go_num⟩
   case measure=>simp [intOf];omega
  ·have e:xs.take k=xs:=List.take_of_length_le (by rw [HN.out];omega);rw [e];go_wp2;go_ret;exact ⟨rfl,rfl⟩
structure aD (F:Nat->Prop) (w w':World):Prop where
 os:w'.os=w.os
 tape:w'.tape=w.tape
 output:w'.output=w.output
 size:w.heap.size<=w'.heap.size
 block:∀ k,k<w.heap.size->¬ F k->w'.heap[k]?=w.heap[k]?
theorem aD.refl (F:Nat->Prop) (w:World):aD F w w:=⟨rfl,rfl,rfl,Nat.le_refl _,fun _ _ _=>rfl⟩
theorem aD.trans' {F G:Nat->Prop} {a b c:World} (h:aD F a b) (k:aD G b c) (hG:∀ x,G x->F x\/a.heap.size<=x):aD F a c :=
 ⟨k.os.trans h.os,k.tape.trans h.tape,k.output.trans h.output,Nat.le_trans h.size k.size,fun i hi hf =>
   (k.block i (Nat.lt_of_lt_of_le hi h.size) (fun hg=>by rcases hG i hg with h1 | h1;exact hf h1;omega)).trans (h.block i hi hf)⟩
theorem aD.trans {F:Nat->Prop} {a b c:World} (h:aD F a b) (k:aD F b c):aD F a c:=h.trans' k fun _ h=>Or.inl h
theorem aD.mono {F G:Nat->Prop} {a b:World} (h:aD F a b) (hG:∀ x,x<a.heap.size->F x->G x):aD G a b :=
 ⟨h.os,h.tape,h.output,h.size,fun k hk hg=>h.block k hk fun hf=>hg (hG k hk hf)⟩
theorem aD.of_below {w w':World} (h:Below w.heap.size w w') (F:Nat->Prop):aD F w w':=⟨h.os,h.tape,h.output,h.size,fun k hk _=>h.block k hk⟩
theorem aD.below {F:Nat->Prop} {w w':World} {B:Nat} (h:aD F w w') (hB:B<=w.heap.size) (hF:∀ k,F k->B<=k):Below B w w' :=
 ⟨h.os,h.tape,h.output,h.size,fun k hk=>h.block k Ha fun hf=>by have:=hF k hf;omega⟩
theorem aD.of_grown {w w':World} {row:Option Nat} (h:w.grownBy w' row):aD (fun k=>some k=row) w w':=⟨h.os,h.tape,h.output,h.size,fun k hk hn=>h.block k hk hn⟩
theorem aD.drew {F:Nat->Prop} {a w:World} (h:aD F a w):aD F a w.drew:=⟨h.os,h.tape,h.output,h.size,h.block⟩
theorem aD.drewN {F:Nat->Prop} {a w:World} (h:aD F a w) (n:Nat):aD F a (w.drewN n):=⟨h.os,h.tape,h.output,h.size,h.block⟩
theorem aD.alloc {F:Nat->Prop} {a w:World} (h:aD F a w) (o:Obj):aD F a (w.alloc o) :=
 h.trans ⟨rfl,rfl,rfl,Hb,fun k hk _=>Below.heap_alloc w o k hk⟩
theorem aD.setCell {F:Nat->Prop} {a w:World} (h:aD F a w) {p:Addr} (hp:F p.block) (u:Value):aD F a (w.setCell p u) :=
 h.trans ⟨rfl,rfl,rfl,by simp [World.setCell],fun k _ hk=>Below.heap_setCell _ _ _ _ (fun e=>hk (e ▸ hp))⟩
theorem lM (b:Nat):∀ (vs:List Value) (o:Nat) (w:World),(w.setCells b o vs).heap.size=w.heap.size
 | [],_,_=>rfl
 | v :: r,o,w=>by rw [World.setCells,lM b r];simp [World.setCell]
theorem bq (b:Nat):∀ (vs:List Value) (o:Nat) (w:World) (k:Nat),k≠b->(w.setCells b o vs).heap[k]?=w.heap[k]?
 | [],_,_,_,_=>rfl
 | v :: r,o,w,k,h=>by rw [World.setCells,bq b r _ _ _ h,Below.heap_setCell _ _ _ _ h]
theorem iH (b:Nat):∀ (vs:List Value) (o:Nat) (w:World),(w.setCells b o vs).os=w.os/\(w.setCells b o vs).tape=w.tape/\(w.setCells b o vs).output=w.output
 | [],_,_=>⟨rfl,rfl,rfl⟩
 | v :: r,o,w=>by rw [World.setCells];exact iH b r (o+1) _
theorem gY (b:Nat) (t:TypeId):∀ (vs:List Value) (o:Nat) (w:World) (C:List Value),w.heap[b]?=some (.cells C.toArray t (0,0))->o+vs.length<=C.length ->
 (w.setCells b o vs).heap[b]?=some (.cells (splice C o vs).toArray t (0,0))
 | [],o,w,C,h,_=>by simpa [splice,World.setCells] using h
 | v :: r,o,w,C,h,hl=>by
   rw [World.setCells];have h1:(w.setCell ⟨b,o,none⟩ v).heap[b]?=some (.cells (C.set o v).toArray t (0,0)):=by
    rw [heap_setCell_same w b o C.toArray t v h];simp
   rw [gY b t r (o+1) _ _ h1 (by simp at hl ⊢;omega)]
   congr 3
   simp only [List.length_cons] at hl;unfold splice;apply List.ext_getElem?;intro i;rw [List.getElem?_append,List.getElem?_append,List.getElem?_append,List.getElem?_append];simp only [List.length_take,List.length_set,List.getElem?_take,List.getElem?_drop,List.getElem?_set,List.length_cons,List.getElem?_cons];have e1:min (o+1) C.length=o+1:=Ha;have e2:min o C.length=o:=Ha;rw [e1,e2];by_cases c1:i<o
   ·simp [c1,show i<o+1 by omega,show ¬ o=i by omega]
   ·by_cases c2:i=o
    ·subst c2;simp [show i<C.length by omega]
    ·have c3:¬ i<o+1:=Ha;simp only [c1,c3,if_false];by_cases c4:i-(o+1)<r.length
     ·simp [c4,show i-o<r.length+1 by omega,show ¬ i-o=0 by omega,show i-o-1=i-(o+1) by omega]
     ·simp only [c4,if_false,show ¬ i-o<r.length+1 by omega];rw [if_neg Ha]
      congr 1;omega
theorem aD.setCells {F:Nat->Prop} {a w:World} (h:aD F a w) {b:Nat} (hp:F b) (o:Nat) (vs:List Value):aD F a (w.setCells b o vs) :=
 h.trans ⟨(iH b vs o w).1,(iH b vs o w).2.1,(iH b vs o w).2.2,by rw [lM];exact Nat.le_refl _,fun k _ hk=>bq b vs o w k (fun e=>hk (e ▸ hp))⟩
def aG (w:World) (Own:Nat->Prop) (E:TypeId) (sz:Nat) (v:Value) (n:Nat) (xs:List Value):Prop :=
 w.ownsRow 0 E sz v n xs/\∀ g,v.ownBlock=some g->Own g
section
variable {w w':World} {Own:Nat->Prop} {E:TypeId} {sz:Nat} {v:Value} {n:Nat} {xs:List Value}
theorem aG.len (h:aG w Own E sz v n xs):xs.length=n*sz:=h.1.1
theorem aG.keep (h:aG w Own E sz v n xs) (hk:∀ k,k<w.heap.size->Own k->w'.heap[k]?=w.heap[k]?):aG w' Own E sz v n xs:=by
 refine ⟨⟨h.1.1,?_⟩,h.2⟩;rcases h.1.2 with h1 | ⟨g,cap,cur,rfl,hb,hg,h2⟩
 ·exact Or.inl h1
 ·refine Or.inr ⟨g,cap,cur,rfl,hb,?_,h2⟩;rw [hk g (ai hg) (h.2 g rfl)];exact hg
theorem aG.below (h:aG w Own E sz v n xs) (hb:Below w.heap.size w w'):aG w' Own E sz v n xs:=h.keep fun k hk _=>hb.block k hk
theorem aG.owner {Own':Nat->Prop} (h:aG w Own E sz v n xs) (ho:∀ g,g<w.heap.size->Own g->Own' g):aG w Own' E sz v n xs :=
 ⟨h.1,fun g hg=>ho g (h.1.lt g hg).2 (h.2 g hg)⟩
theorem aG.val (h:aG w Own E sz v n xs):∃ A cap,v=.slice A n cap/\n<=cap/\cap<=9223372036854775807:=by
 rcases h.1.2 with ⟨rfl,h0⟩ | ⟨g,cap,cur,rfl,hb,hg,hn,hm,_⟩
 ·exact ⟨none,0,by rw [h0],Ha,Ha⟩
 ·exact ⟨_,cap,rfl,hn,by simp only [maxLen] at hm;omega⟩
theorem aG.pos (h:aG w Own E sz v n xs) (hn:0<n) :
 ∃ g cap,v=.slice (some ⟨g,0,none⟩) n cap/\Own g/\g<w.heap.size/\n<=cap/\cap<=9223372036854775807/\(∀ j,j<n*sz->w.cell? ⟨g,j,none⟩=xs[j]?)/\∀ j,w.frozen? ⟨g,j,none⟩=false:=by
 rcases h.1.2 with ⟨_,h0⟩ | ⟨g,cap,cur,rfl,hb,hg,hn',hm,hs,ht⟩
 ·omega
 ·exact ⟨g,cap,rfl,h.2 g rfl,ai hg,hn',by simp only [maxLen] at hm;omega,fun j hj=>h.1.cellAt j hj,fun j=>h.1.frozenAt j⟩
theorem aG.one {g cap:Nat} (h:aG w Own E 1 (.slice (some ⟨g,0,none⟩) n cap) n xs) {j:Nat} {x:Value} (hx:xs[j]?=some x):w.cell? ⟨g,j,none⟩=some x:=by
 have hj:=(List.getElem?_eq_some_iff.1 hx).1;rw [h.1.cellAt j (by have:=h.len;omega)];exact hx
theorem aG.nil (w:World) (Own:Nat->Prop) (E:TypeId) (sz:Nat):aG w Own E sz (.slice none 0 0) 0 []:=⟨World.ownsRow_nil _ _ _ _,fun g h=>by cases h⟩
theorem aG.stored {g cap:Nat} (h:aG w Own E sz (.slice (some ⟨g,0,none⟩) n cap) n xs) (j:Nat) (u:Value):aG (w.setCell ⟨g,j,none⟩ u) Own E sz (.slice (some ⟨g,0,none⟩) n cap) n (xs.set j u) :=
 ⟨(h.1.stored j u).1,h.2⟩
theorem aG.storedMany {g cap:Nat} (h:aG w Own E sz (.slice (some ⟨g,0,none⟩) n cap) n xs) (o:Nat) (us:List Value) (hf:o+us.length<=n*sz) :
 aG (w.setCells g o us) Own E sz (.slice (some ⟨g,0,none⟩) n cap) n (splice xs o us):=by
 refine ⟨⟨by rw [length_splice _ _ _ (by rw [h.len];exact hf)];exact h.len,?_⟩,h.2⟩;rcases h.1.2 with ⟨h',_⟩ | ⟨g',cap',cur,h',hb,hg,hn',hm,hs,ht⟩
 ·cases h'
 ·injection h' with e1 e2 e3
  injection e1 with e1;injection e1 with e1
  subst e1;subst e3;have hc:n*sz<=cap*sz:=Nat.mul_le_mul_right _ hn';have hcl:cur.toList.length=cap*sz:=by rw [<- hs];simp
  have hle:o+us.length<=cur.toList.length:=Ha;have:=gY g E us o w cur.toList (by simpa using hg) hle;refine Or.inr ⟨g,cap,_,rfl,hb,this,hn',hm,?_,?_⟩
  ·rw [List.size_toArray,length_splice _ _ _ hle,hcl]
  ·rw [<- ht];unfold splice;rw [List.take_append,List.take_take,List.length_take,hcl];have e1:min o (cap*sz)=o:=Ha;rw [e1,List.take_append,show min (n*sz) o=o by omega,List.take_of_length_le (l:=us) Ha,List.take_take,show min o (n*sz)=o by omega]
   congr 2
   rw [List.take_drop,show o+us.length+(n*sz-o-us.length)=n*sz by omega]
theorem aG.there {g cap:Nat} (h:aG w Own E sz (.slice (some ⟨g,0,none⟩) n cap) n xs) (o m:Nat) (hf:o+m<=n*sz):w.there g o m:=fun j hj=>by
 have hl:=h.len;exact ⟨by rw [h.1.cellAt _ Ha,List.getElem?_eq_getElem Ha];rfl,h.1.frozenAt _⟩
end
def cf {α:Type} (w:World) (OT:Nat->Prop) (OR:Nat->Nat->Prop) (ET ER:TypeId) (sz:Nat) (enc:List α->List Value) (v:Value) (rows:List (List α)):Prop :=
 ∃ vs,aG w OT ET 1 v rows.length vs/\∀ r row,rows[r]?=some row->∃ u,vs[r]?=some u/\aG w (OR r) ER sz u row.length (enc row)
section
variable {α:Type} {w w':World} {OT:Nat->Prop} {OR:Nat->Nat->Prop} {ET ER:TypeId} {sz:Nat} {enc:List α->List Value} {v:Value} {rows:List (List α)}
theorem cf.keep (h:cf w OT OR ET ER sz enc v rows) (hk:∀ k,k<w.heap.size->OT k\/(∃ r,OR r k)->w'.heap[k]?=w.heap[k]?):cf w' OT OR ET ER sz enc v rows:=by
 obtain ⟨vs,h1,h2⟩:=h;refine ⟨vs,h1.keep fun k hk' ho=>hk k hk' (Or.inl ho),fun r row hr=>?_⟩;obtain ⟨u,hu,h3⟩:=h2 r row hr;exact ⟨u,hu,h3.keep fun k hk' ho=>hk k hk' (Or.inr ⟨r,ho⟩)⟩
theorem cf.owner {OT':Nat->Prop} {OR':Nat->Nat->Prop} (h:cf w OT OR ET ER sz enc v rows) (h1:∀ k,k<w.heap.size->OT k->OT' k) (h2:∀ r k,k<w.heap.size->OR r k->OR' r k):cf w OT' OR' ET ER sz enc v rows:=by
 obtain ⟨vs,h3,h4⟩:=h;refine ⟨vs,h3.owner h1,fun r row hr=>?_⟩;obtain ⟨u,hu,h5⟩:=h4 r row hr;exact ⟨u,hu,h5.owner (h2 r)⟩
theorem cf.val (h:cf w OT OR ET ER sz enc v rows):∃ A cap,v=.slice A rows.length cap/\rows.length<=cap/\cap<=9223372036854775807:=by
 obtain ⟨vs,h1,_⟩:=h;exact h1.val
theorem cf.row {r:Nat} {row:List α} (h:cf w OT OR ET ER sz enc v rows) (hr:rows[r]?=some row) :
 ∃ g cap u,v=.slice (some ⟨g,0,none⟩) rows.length cap/\OT g/\g<w.heap.size/\w.cell? ⟨g,r,none⟩=some u/\w.frozen? ⟨g,r,none⟩=false/\aG w (OR r) ER sz u row.length (enc row):=by
 obtain ⟨vs,h1,h2⟩:=h;obtain ⟨u,hu,h3⟩:=h2 r row hr;have hlt:=(List.getElem?_eq_some_iff.1 hr).1;obtain ⟨g,cap,rfl,ho,hg,_,_,hc,hf⟩:=h1.pos Ha;exact ⟨g,cap,u,rfl,ho,hg,by rw [hc r Ha];exact hu,hf r,h3⟩
theorem cf.nil (w:World) (OT:Nat->Prop) (OR:Nat->Nat->Prop) (ET ER:TypeId) (sz:Nat) (enc:List α->List Value):cf w OT OR ET ER sz enc (.slice none 0 0) [] :=
 ⟨[],aG.nil _ _ _ _,fun r row h=>by cases h⟩
end
section
variable {P:Program} {o:Oper} {a:Act} {w w':World} {K:Act->World->Prop} {Q:Exit->Act->World->Prop}
theorem ju {v:Value} (h:(execOp a.eval o).run P w=.ok (.value v) w') (hK:K (a.put o.dst v) w'):o.wp P a w K Q:=by
 simp only [Oper.wp,h,Oper.upon];exact hK
theorem bV (t:TypeId) (ho:o.op=.alloc t) (i:TypeInfo) (z:Value) (hi:P.info? t=some i) (hz:i.zero=some z)
 (hK:K (a.put o.dst (.pointer (some ⟨w.heap.size,0,none⟩))) (w.alloc (.cells z.cells t))):o.wp P a w K Q:=by
 refine ju (v:=.pointer (some ⟨w.heap.size,0,none⟩)) ?_ hK;unfold execOp;simp [ho,Instr.alloc,zeroValue,typeInfo,hi,hz,newVar,newRow]
theorem iU (t:TypeId) (x y:Operand) (ho:o.op=.makeSlice t x y) (e:TypeId) (i:TypeInfo) (z:Value) (size:Nat) (ht:P.underlying t=some (.slice e)) (hi:P.info? e=some i) (hz:i.zero=some z) (hs:i.size=size)
 (n:Nat) (k1 k2:IntKind) (hx:a.eval x=.int k1 n) (hy:a.eval y=.int k2 n) (hb:i.bytes*n<=281474976710656) (hn:n<=maxLen)
 (hK:∀ w',w'.ownsRow 0 e size (.slice (some ⟨w.heap.size,0,none⟩) n n) n (madeCells z.cells (n*size)).toList->w.grownBy w' none->w'.heap.size=w.heap.size+1->K (a.put o.dst (.slice (some ⟨w.heap.size,0,none⟩) n n)) w'):o.wp P a w K Q:=by
 subst hs;have h63':(n:Int)<=9223372036854775807:=by simp [maxLen] at hn;omega
 have hb':(i.bytes:Int)*(n:Int)<=281474976710656:=by
  have h:((i.bytes*n:Nat):Int)<=281474976710656:=Ha
  rwa [Int.natCast_mul] at h
 have hr:=run_make (P:=P) w t e i z ht hi hz k1 k2 n n Ha (Int.le_refl _) hb' h63';simp only [Int.toNat_natCast] at hr;refine ju (v:=.slice (some ⟨w.heap.size,0,none⟩) n n) (w':=w.alloc (.cells (madeCells z.cells (n*i.size)) e)) ?_ (hK _ (World.ownsRow_lit w _ n (Nat.zero_le _) hn (size_madeCells _ _)) (World.grownBy_alloc w _ none) Hb);unfold execOp;simp only [ho,hx,hy,Sem.run_bind,hr,Result.andThen_ok,Sem.run_pure]
theorem EI (vs:List Value):∀ (k off:Nat) (cs:Array Value),off+k+vs.length<=cs.size ->
 ((vs.zipIdx k).foldl (fun (cs:Array Value) (x:Value × Nat)=>cs.setIfInBounds (off+x.2) x.1) cs).toList=splice cs.toList (off+k) vs:=by
 induction vs with
 | nil=>intro k off cs _;simp [splice]
 | cons v r ih =>
   intro k off cs h;simp only [List.zipIdx_cons,List.foldl_cons];simp only [List.length_cons] at h;rw [ih (k+1) off _ (by simp;omega),Array.toList_setIfInBounds];unfold splice;apply List.ext_getElem?;intro i;rw [List.getElem?_append,List.getElem?_append,List.getElem?_append,List.getElem?_append];simp only [List.length_take,List.length_set,List.getElem?_take,List.getElem?_drop,List.getElem?_set,List.length_cons,List.getElem?_cons,Array.length_toList];have e1:min (off+(k+1)) cs.size=off+k+1:=Ha;have e2:min (off+k) cs.size=off+k:=Ha;rw [e1,e2];by_cases c1:i<off+k
   ·simp [c1,show i<off+k+1 by omega,show ¬ off+k=i by omega,show i<off+(k+1) by omega]
   ·by_cases c2:i=off+k
    ·subst c2;simp [show off+k<cs.size by omega,show off+k<off+(k+1) by omega]
    ·have c3:¬ i<off+k+1:=Ha;simp only [c1,c3,if_false];by_cases c4:i-(off+k+1)<r.length
     ·simp [c4,show i-(off+k)<r.length+1 by omega,show ¬ i-(off+k)=0 by omega,show i-(off+k)-1=i-(off+k+1) by omega]
     ·simp only [c4,if_false,show ¬ i-(off+k)<r.length+1 by omega];rw [if_neg Ha]
      congr 1;omega
theorem ge {place:Nat->Option (Nat × Nat)} {cells:Array Value} {i off size:Nat} {v:Value} {rest:List (Nat × Value)} (hp:place i=some (off,size)) (hs:v.cells.size=size) (hf:off+size<=cells.size) :
 Instr.fill place cells ((i,v) :: rest)=Instr.fill place (splice cells.toList off v.cells.toList).toArray rest:=by
 rw [Instr.fill,hp];dsimp only;rw [if_neg (by simp [hs];omega)]
 congr 1
 have:=EI v.cells.toList 0 off cells (by simp [hs];omega);rw [Nat.add_zero] at this;rw [<- this,Array.toArray_toList,<- Array.foldl_toList]
 congr 1
 simp only [Array.zipIdx,Array.toList_mapIdx];apply List.ext_getElem?;intro j;simp [List.getElem?_zipIdx]
theorem l9 {α:Type} (C vs:List α) (h:C.length=vs.length):splice C 0 vs=vs:=by
 unfold splice;simp;omega
theorem gf (t:TypeId) (x:Operand) (ho:o.op=.buildSlice t 1 #[(0,x)]) (e:TypeId) (i:TypeInfo) (z:Value) (size:Nat) (ht:P.underlying t=some (.slice e)) (hi:P.info? e=some i) (hz:i.zero=some z) (hs:i.size=size) (hp:0<size) (hl:size<=16777216)
 (v:Value) (hx:a.eval x=v) (hv:v.cells.size=size)
 (hK:K (a.put o.dst (.slice (some ⟨w.heap.size,0,none⟩) 1 1)) (w.alloc (.cells v.cells e))):o.wp P a w K Q:=by
 refine ju (v:=.slice (some ⟨w.heap.size,0,none⟩) 1 1) ?_ hK;unfold execOp;have hf:Instr.fill (fun i=>some (i*size,size)) ((Array.range (1*size)).map (z.cells[·% z.cells.size]!)) [(0,v)]=some v.cells:=by
  rw [ge (off:=0) (size:=size) Hb hv Hb,l9 _ _ (by simp [hv])];simp [Instr.fill]
 simp only [Nat.one_mul] at hf;simp [ho,Instr.buildSlice,run_underlying ht,sizeOf,typeInfo,zeroValue,hi,hz,hs,hx,show ¬ 16777216<size by omega,show ¬ size=0 by omega,hf,newRow]
theorem iV (t ty e:TypeId) (i:TypeInfo) (z:Value) (size bytes:Nat) (ht:P.underlying t=some (.slice e)) (hi:P.info? e=some i) (hz:i.zero=some z)
 (hsize:i.size=size) (hby:i.bytes=bytes) (hzs:z.cells.size=size) (hsz:0<size)
 (v:Value) (n:Nat) (xs:List Value) (hown:w.ownsRow 0 e size v n xs) (ad:Addr) (m c:Nat) (news:List Value) (hl:news.length=m*size) (hnews:∀ j u,news[j]?=some u->w.cell? (ad.add j)=some u) (h1:∀ u∈news,u.oneCell'=true)
 (h63:n+m<=maxLen) (hbytes:(n+m)*bytes<=140737488355328) {v':Value}
 (hr:(Builtin.append_ #[t,t] ty #[v,.slice (some ad) m c]).run P w=.ok v' w'):w'.ownsRow 0 e size v n xs:=by
 rcases hown.2 with ⟨rfl,rfl⟩ | ⟨g,cap,cur,rfl,hb,hg,hnc,hcm,hcs,htake⟩
 ·exact ⟨hown.1,Or.inl ⟨rfl,rfl⟩⟩
 ·by_cases hroom:n+m<=cap
  ·obtain ⟨w2,hr2,ho2,hg2⟩:=run_append_fits (P:=P) w 0 t ty e i size ht hi hsize g n cap xs hown ad m c news hl hnews h1 hroom;rw [hr] at hr2;injection hr2 with e1 e2
   subst e2;rcases ho2.2 with ⟨h',_⟩ | ⟨g',cap',cur',h',_,hg',_,_,hcs',ht'⟩
   ·cases h'
   ·injection h' with q1 q2 q3
    injection q1 with q1;injection q1 with q1
    subst q1;subst q3;refine ⟨hown.1,Or.inr ⟨g,cap,cur',rfl,hb,hg',hnc,hcm,hcs',?_⟩⟩;have:=congrArg (List.take (n*size)) ht';rw [List.take_take,Nat.add_mul,show min (n*size) (n*size+m*size)=n*size by omega,<- hown.1,List.take_left] at this;rw [<- hown.1];exact this
  ·have holds:∀ j u,xs[j]?=some u->w.cell? ((⟨g,0,none⟩:Addr).add j)=some u:=hown.cells (g:=g) rfl;subst hsize;subst hby
   have hr2:=run_append_grow (P:=P) w t ty e i z ht hi hz ⟨g,0,none⟩ n cap xs hown.1 holds ad m c news hl hnews Ha (by simp only [maxLen] at h63;omega) (growslice_fits Ha hbytes);rw [hr] at hr2;injection hr2 with e1 e2
   subst e2;refine ⟨hown.1,Or.inr ⟨g,cap,cur,rfl,hb,?_,hnc,hcm,hcs,htake⟩⟩;exact (Below.heap_alloc w.drew _ g (ai hg)).trans hg
theorem iW (s x:Operand) (t:TypeId) (ho:o.op=.call { callee:=.builtin .append,args:=#[s,x],argTypes:=#[t,t] })
 (e:TypeId) (i:TypeInfo) (z:Value) (size bytes:Nat) (ht:P.underlying t=some (.slice e)) (hi:P.info? e=some i) (hz:i.zero=some z)
 (hsize:i.size=size) (hby:i.bytes=bytes) (hzs:z.cells.size=size) (hsz:0<size)
 (v:Value) (n:Nat) (xs:List Value) (hs:a.eval s=v) (Own:Nat->Prop) (hown:aG w Own e size v n xs)
 (ad:Addr) (m c:Nat) (news:List Value) (hx:a.eval x=.slice (some ad) m c) (hl:news.length=m*size) (hnews:∀ j u,news[j]?=some u->w.cell? (ad.add j)=some u) (h1:∀ u∈news,u.oneCell'=true)
 (h63:n+m<=maxLen) (hbytes:(n+m)*bytes<=140737488355328)
 (h:∀ v' w',aG w' (fun k=>Own k\/w.heap.size<=k) e size v' (n+m) (xs++news)->w.grownBy w' v.ownBlock->aG w' Own e size v n xs->K (a.put o.dst v') w'):o.wp P a w K Q:=by
 obtain ⟨v',w',hr,h2,h3,h4,h5⟩:=run_append_own_at (P:=P) w 0 t o.type e i z size bytes ht hi hz hsize hby hzs hsz v n xs hown.1 ad m c news hl hnews h1 h63 hbytes (Nat.zero_le _);unfold Oper.wp execOp;simp only [ho,resolve,invoke,builtin,Sem.run_bind,Sem.run_pure,Result.andThen_ok,List.map_toArray,List.map_cons,List.map_nil,hs,hx,hr];refine h v' w' ⟨h2,fun g hg=>?_⟩ h3 ⟨iV t o.type e i z size bytes ht hi hz hsize hby hzs hsz v n xs hown.1 ad m c news hl hnews h1 h63 hbytes hr,hown.2⟩;rcases h5 with h5 | h5
 ·exact Or.inl (hown.2 g (by rw [<- h5];exact hg))
 ·rw [h5] at hg;injection hg with hg;exact Or.inr Ha
end
end Go.Proofs.YtegjelaejbacnaaGreat
