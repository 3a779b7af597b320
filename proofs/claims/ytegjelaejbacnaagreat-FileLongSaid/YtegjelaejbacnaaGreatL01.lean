/- For FileLong: contracts and facts, part 1. -/
import Derived.Scope
import Derived.ScopeJumps
import Derived.WalkKit
import Derived.Test.YtegjelaejbacnaaGreatRows
import Derived.ProofKit
import Derived.OpenShut
import Derived.Outline
import Derived.WalkLawsBesides
import Derived.Laws.Bits64b
import Derived.Deep.RegionHeld3
import Derived.Lib.Hide
import Derived.LoopTactic
import Derived.Laws.StructEq
import Derived.Laws.BytesArg
import Derived.Laws.MakeOwn
import Derived.Maps.AppendAt
import Derived.OwnWalk
import Derived.IntWalk
import Derived.WalkMore
import Derived.Deep.QuietTactic
import Derived.BigQuiet
import Derived.Deep.Slices
import Derived.Deep.Fields
import Derived.ChangeSame
import Derived.Carry
import Derived.Lib.SmallJoins
import Derived.Deep.AppendLies
import Derived.Deep.RegionLaw
import Derived.Laws.BitsAllLaws
import Derived.Deep.MidRow
import Derived.Laws.CopyOwn
import Derived.OrdersHeld
set_option maxRecDepth 100000
set_option maxHeartbeats 25600000
set_option linter.unusedVariables false
open Go.ChangeShapes Go.WideShapes Go.ChangeAt Go.RowKit Go.Deep
namespace Go.Proofs.YtegjelaejbacnaaGreat
theorem Ha {P:Prop} (h:P:=by omega):P:=h
theorem Hb {P:Prop} (h:P:=by simp):P:=h
theorem Hc {P:Prop} (h:P:=by kernel_rfl):P:=h
theorem Hd {P:Prop} (h:P:=by decide):P:=h
theorem Hl {P:Prop} (h:P:=by rfl):P:=h
theorem He {P:Prop} (h:P):Hid P:=Lib.hid h
def cK (J:Nat->Act->World->Prop) (Q:Exit->Act->World->Prop):Exit->Act->World->Prop
 | .goto l,a,w=>J l a w
 | e,a,w=>Q e a w
theorem aU (J:Nat->Act->World->Prop) (Q:Exit->Act->World->Prop):cK J Q .ret=Q .ret:=rfl
theorem uV (J:Nat->Act->World->Prop) (Q:Exit->Act->World->Prop):cK J Q .normal=Q .normal:=rfl
theorem gN {P:Program} {a:Act} {w:World} {Q:Exit->Act->World->Prop} {c:Code} (J:Nat->Act->World->Prop) (μ:Nat->Act->World->Nat)
 (C:∀ l a w,J l a w->∃ rest,findLabel c l=some rest)
 (first:c.wp P (cK J Q) a w)
 (s:∀ l rest,findLabel c l=some rest->∀ a w,J l a w->rest.wp P (cK (fun q t w'=>J q t w'/\μ q t w'<μ l a w) Q) a w):(Code.scope c).wp P Q a w:=by
 intro b k u;have H:∀ l rest,findLabel c l=some rest->gotoIn l (.inScope c :: k)=some (.code rest :: .inScope c :: k):=fun l rest h=>by simp [gotoIn,h]
 have v:∀ n l rest a w,findLabel c l=some rest->μ l a w=n->J l a w->∃ e t w',Q e t w'/\Arrives P (lone (b.at a (.code rest :: .inScope c :: k)) u w) b k u e t w':=by
  intro n
  induction n using Nat.strongRecOn with
  | _ n ih =>
    intro l rest a w I M hJ;obtain ⟨e,i,j,m,d⟩:=s l rest I a w hJ b (.inScope c :: k) u;cases e with
    | normal=>exact ⟨.normal,i,j,m,Steps.trans d (.one step_inScope)⟩
    | exit id=>exact ⟨.exit id,i,j,m,fun x y=>d x (by simp [exitTo,y])⟩
    | goto q =>
      obtain ⟨o,K⟩:=m;obtain ⟨f,p⟩:=C _ _ _ o;obtain ⟨z,A,B,r,g⟩:=ih _ Ha q f i j p rfl o;exact ⟨z,A,B,r,.of_steps (d _ (H _ _ p)) g⟩
    | ret=>exact ⟨_,i,j,m,d⟩
    | panic L=>exact ⟨_,i,j,m,d⟩
    | outgrown=>exact ⟨_,i,j,m,d⟩
 obtain ⟨e,i,j,m,d⟩:=first b (.inScope c :: k) u
 cases e with
 | normal=>exact ⟨.normal,i,j,m,.head step_scope (Steps.trans d (.one step_inScope))⟩
 | exit id=>exact ⟨.exit id,i,j,m,fun x y=>.head step_scope (d x (by simp [exitTo,y]))⟩
 | goto q =>
   have o:J q i j:=m;obtain ⟨f,p⟩:=C _ _ _ o;obtain ⟨z,A,B,r,g⟩:=v _ q f i j p rfl o;exact ⟨z,A,B,r,.of_steps (.head step_scope (d _ (H _ _ p))) g⟩
 | ret=>exact ⟨_,i,j,m,.of_steps (.one step_scope) d⟩
 | panic L=>exact ⟨_,i,j,m,.of_steps (.one step_scope) d⟩
 | outgrown=>exact ⟨_,i,j,m,.of_steps (.one step_scope) d⟩
theorem bq {P:Program} {a:Act} {w:World} {Q:Exit->Act->World->Prop} {c r:Code} (J:Act->World->Prop) (μ:Act->World->Nat)
 (h:findLabel c 0=some (.seq .skip r))
 (first:(∀ a w,J a w->r.wp P (Exit.jump 0 J Q) a w)->c.wp P (Exit.jump 0 J Q) a w)
 (b:∀ a w,J a w->r.wp P (Exit.jump 0 (fun d w'=>J d w'/\μ d w'<μ a w) Q) a w):(Code.scope c).wp P Q a w:=by
 refine wp_scope_jumps 0 J μ h (first fun a w hJ=>?_) (fun a w hJ=>wp_seq (wp_skip (b a w hJ)));refine wp_mono (b a w hJ) ?_;intro e d w' f;cases e with
 | goto i=>obtain ⟨rfl,g,j⟩:=f;exact ⟨rfl,g⟩
 | _=>exact f
theorem zc {P:Program} {a:Act} {w:World} {Q:Exit->Act->World->Prop} {c n o:Code} (i k:Act->World->Prop) (μ:Act->World->Nat)
 (p:findLabel c 0=some (.seq .skip n)) (q:findLabel c 1=some o)
 (first:(∀ a w,i a w->n.wp P (cK (fun l a w=>match l with | 0=>i a w | 1=>k a w | _=>False) Q) a w)->c.wp P (cK (fun l a w=>match l with | 0=>i a w | 1=>k a w | _=>False) Q) a w)
 (d:∀ a w,i a w->n.wp P (cK (fun l j w'=>match l with | 0=>i j w'/\μ j w'<μ a w | 1=>k j w' | _=>False) Q) a w)
 (g:∀ a w,k a w->o.wp P (cK (fun _ _ _=>False) Q) a w):(Code.scope c).wp P Q a w:=by
 refine gN (fun l a w=>match l with | 0=>i a w | 1=>k a w | _=>False) (fun l a w=>match l with | 0=>μ a w+1 | _=>0) ?_ (first fun a w h=>?_) ?_
 ·intro l a w h
  match l,h with
  | 0,_=>exact ⟨_,p⟩
  | 1,_=>exact ⟨_,q⟩
 ·refine wp_mono (d a w h) ?_;intro e j w' b;cases e with
  | goto m=>match m,b with
    | 0,b=>exact b.1
    | 1,b=>exact b
  | _=>exact b
 ·intro l rest f a w hJ
  match l,hJ with
  | 0,hJ =>
    rw [p] at f;injection f with f;subst f
    refine wp_seq (wp_skip (wp_mono (d a w hJ) ?_));intro e j w' b;cases e with
    | goto m=>match m,b with
      | 0,b=>exact ⟨b.1,Nat.succ_lt_succ b.2⟩
      | 1,b=>exact ⟨b,Nat.succ_pos _⟩
    | _=>exact b
  | 1,hJ =>
    rw [q] at f;injection f with f;subst f
    refine wp_mono (g a w hJ) ?_;intro e j w' b;cases e with
    | goto m=>exact b.elim
    | _=>exact b
def uW (P:Program) (c:Code) (Q:Exit->Act->World->Prop):List Nat->Nat->Act->World->Prop
 | [],_,_,_=>False
 | l :: b,m,a,w=>(m=l/\∃ rest,findLabel c l=some rest/\rest.wp P (cK (uW P c Q b) Q) a w)\/(m≠l/\uW P c Q b m a w)
theorem BY {P:Program} {c:Code} {Q:Exit->Act->World->Prop} {l:Nat} {b:List Nat} {a:Act} {w:World} {rest:Code} (h:findLabel c l=some rest) (d:rest.wp P (cK (uW P c Q b) Q) a w):uW P c Q (l :: b) l a w:=Or.inl ⟨rfl,rest,h,d⟩
theorem Gz {P:Program} {c:Code} {Q:Exit->Act->World->Prop} {l m:Nat} {b:List Nat} {a:Act} {w:World} (h:m≠l) (d:uW P c Q b m a w):uW P c Q (l :: b) m a w:=Or.inr ⟨h,d⟩
theorem uX {P:Program} {a:Act} {w:World} {Q:Exit->Act->World->Prop} {c:Code} (q:List Nat)
 (first:c.wp P (cK (uW P c Q q) Q) a w):(Code.scope c).wp P Q a w:=by
 intro b k r;have A:∀ l rest,findLabel c l=some rest->gotoIn l (.inScope c :: k)=some (.code rest :: .inScope c :: k):=fun l rest h=>by simp [gotoIn,h]
 have s:∀ q m a w,uW P c Q q m a w->∃ rest,findLabel c m=some rest/\∃ e B C,Q e B C/\Arrives P (lone (b.at a (.code rest :: .inScope c :: k)) r w) b k r e B C:=by
  intro q
  induction q with
  | nil=>intro m a w h;exact h.elim
  | cons l q ih =>
    rintro m a w (⟨rfl,rest,H,I⟩ | ⟨_,h⟩)
    ·refine ⟨rest,H,?_⟩;obtain ⟨e,g,i,j,d⟩:=I b (.inScope c :: k) r;cases e with
     | normal=>exact ⟨.normal,g,i,j,Steps.trans d (.one step_inScope)⟩
     | exit id=>exact ⟨.exit id,g,i,j,fun t u=>d t (by simp [exitTo,u])⟩
     | goto v =>
       obtain ⟨n,o,x,y,z,p,f⟩:=ih v g i j;exact ⟨x,y,z,p,.of_steps (d _ (A _ _ o)) f⟩
     | ret=>exact ⟨_,g,i,j,d⟩
     | panic K=>exact ⟨_,g,i,j,d⟩
     | outgrown=>exact ⟨_,g,i,j,d⟩
    ·exact ih m a w h
 obtain ⟨e,g,i,j,d⟩:=first b (.inScope c :: k) r
 cases e with
 | normal=>exact ⟨.normal,g,i,j,.head step_scope (Steps.trans d (.one step_inScope))⟩
 | exit id=>exact ⟨.exit id,g,i,j,fun t u=>.head step_scope (d t (by simp [exitTo,u]))⟩
 | goto v =>
   obtain ⟨n,o,x,y,z,p,f⟩:=s _ v g i j;exact ⟨x,y,z,p,.of_steps (.head step_scope (d _ (A _ _ o))) f⟩
 | ret=>exact ⟨_,g,i,j,.of_steps (.one step_scope) d⟩
 | panic K=>exact ⟨_,g,i,j,.of_steps (.one step_scope) d⟩
 | outgrown=>exact ⟨_,g,i,j,.of_steps (.one step_scope) d⟩
theorem fj {P:Program} {a:Act} {w:World} {Q:Exit->Act->World->Prop} {c:Code} (b:List Nat)
 (first:∀ F:List Nat->Nat->Act->World->Prop,(∀ l b a w rest,findLabel c l=some rest->rest.wp P (cK (F b) Q) a w->F (l :: b) l a w)->(∀ l m b a w,m≠l->F b m a w->F (l :: b) m a w)->c.wp P (cK (F b) Q) a w):(Code.scope c).wp P Q a w :=
 uX b (first (uW P c Q) (fun _ _ _ _ _ h d=>BY h d) (fun _ _ _ _ _ h d=>Gz h d))
theorem jh {P:Program} {a:Act} {w:World} {Q:Exit->Act->World->Prop} {c o n:Code} (k i:Act->World->Prop) (μ:Act->World->Nat)
 (p:findLabel c 0=some o) (q:findLabel c 1=some (.seq .skip n))
 (first:(∀ a w,i a w->n.wp P (cK (fun l a w=>match l with | 0=>k a w | 1=>i a w | _=>False) Q) a w)->c.wp P (cK (fun l a w=>match l with | 0=>k a w | 1=>i a w | _=>False) Q) a w)
 (d:∀ a w,i a w->n.wp P (cK (fun l j w'=>match l with | 0=>k j w' | 1=>i j w'/\μ j w'<μ a w | _=>False) Q) a w)
 (g:∀ a w,k a w->o.wp P (cK (fun _ _ _=>False) Q) a w):(Code.scope c).wp P Q a w:=by
 refine gN (fun l a w=>match l with | 0=>k a w | 1=>i a w | _=>False) (fun l a w=>match l with | 1=>μ a w+1 | _=>0) ?_ (first fun a w h=>?_) ?_
 ·intro l a w h
  match l,h with
  | 0,_=>exact ⟨_,p⟩
  | 1,_=>exact ⟨_,q⟩
 ·refine wp_mono (d a w h) ?_;intro e j w' b;cases e with
  | goto m=>match m,b with
    | 0,b=>exact b
    | 1,b=>exact b.1
  | _=>exact b
 ·intro l rest f a w hJ
  match l,hJ with
  | 1,hJ =>
    rw [q] at f;injection f with f;subst f
    refine wp_seq (wp_skip (wp_mono (d a w hJ) ?_));intro e j w' b;cases e with
    | goto m=>match m,b with
      | 0,b=>exact ⟨b,Nat.succ_pos _⟩
      | 1,b=>exact ⟨b.1,Nat.succ_lt_succ b.2⟩
    | _=>exact b
  | 0,hJ =>
    rw [p] at f;injection f with f;subst f
    refine wp_mono (g a w hJ) ?_;intro e j w' b;cases e with
    | goto m=>exact b.elim
    | _=>exact b
theorem Lb {W a:World} (c:Below W.heap.size W a):(∀ b o,b<W.heap.size->a.cell? ⟨b,o,none⟩=W.cell? ⟨b,o,none⟩)/\(∀ b o,b<W.heap.size->a.frozen? ⟨b,o,none⟩=W.frozen? ⟨b,o,none⟩) :=
 ⟨fun b o h=>c.cell (p:=⟨b,o,none⟩) h,fun b o h=>c.frozen (p:=⟨b,o,none⟩) h⟩
theorem keep {W a:World} (c:Below W.heap.size W a) {b o:Nat} {v:Value} (h:W.cell? ⟨b,o,none⟩=some v):a.cell? ⟨b,o,none⟩=some v:=by
 rw [(Lb c).1 _ _ (World.block_lt_of_cell? W _ h)];exact h
theorem aR {w W a:World} (h:Below w.heap.size w W) (b:Below W.heap.size W a):Below w.heap.size w a:=h.trans (b.mono h.size)
theorem Ji {W:World} {a:Addr} {v:Value} (h:W.cell? a=some v) (o:Obj):(W.alloc o).cell? a=some v:=by
 rw [World.cell?_alloc_some W a o (by rw [h];rfl)];exact h
theorem cO {w w':World} (b:Below w.heap.size w w') {q:Addr} {v:Value} (a:w.cell? q=some v):w'.cell? q=some v:=by
 rw [b.cell (World.block_lt_of_cell? w q a)];exact a
theorem DK {B:Nat} {w a:World} (h:Below B w a) (n:Nat):Below B w (a.drewN n):=⟨h.os,h.tape,h.output,h.size,h.block⟩
abbrev i64 (l:Int):Prop := -2 ^ 63<=l/\l<=2 ^ 63
theorem aw {α:Type} {l:List α} {k:Nat} {s:α} (h:l[k]?=some s):l.take (k+1)=l.take k++[s]:=by
 rw [List.take_add_one,h];rfl
theorem aj {a b:Bool} (h:a=b):Ending.returned (.bool a)=.returned (.bool b):=by rw [h]
theorem lR {k:IntKind} {a b:Int} (h:a=b):Ending.returned (.int k a)=.returned (.int k b):=by rw [h]
theorem ai {W:World} {r i:Nat} {C:Array Value} {t:TypeId} (h:W.heap[r]?=some (.cells C t (0,0))) (u:Value):(W.setCell ⟨r,i,none⟩ u).heap[r]?=some (.cells (C.setIfInBounds i u) t (0,0)):=by
 simp [World.setCell,Array.getElem?_modify,h]
theorem JN {W:World} {base e sz n:Nat} {v:Value} {xs:List Value} (h:W.ownsRow base e sz v n xs) {a:Addr} (u:Value) (b:v.ownBlock≠some a.block):(W.setCell a u).ownsRow base e sz v n xs :=
 h.kept (row:=some a.block) ⟨rfl,rfl,rfl,Hb,fun k c b=>by
  rw [World.setCell];simp only [Array.getElem?_modify];rw [if_neg (fun e=>b (by rw [e]))]⟩ (.inr b)
theorem af {W:World} {r:Nat} {C:Array Value} {t:TypeId} {a:Nat × Nat} (h:W.heap[r]?=some (.cells C t a)) (i:Nat):W.cell? ⟨r,i,none⟩=C[i]?:=cell_of_row W r i C t a h
theorem aA {W:World} {r:Nat} {C:Array Value} {t:TypeId} (h:W.heap[r]?=some (.cells C t (0,0))) (i:Nat):W.frozen? ⟨r,i,none⟩=false:=by simp [World.frozen?,h]
theorem ah {W:World} {g:Nat} {o:Obj} (h:W.heap[g]?=some o):g<W.heap.size:=by
 rcases Nat.lt_or_ge g W.heap.size with a | a
 ·exact a
 ·rw [Array.getElem?_eq_none a] at h;cases h
theorem ji (a:Addr) (i j:Nat):(a.add i).add j=a.add (i+j):=by
 unfold Addr.add;by_cases b:i=0 <;> by_cases hj:j=0 <;> simp [b,hj,Nat.add_assoc]
theorem dU (g i:Nat):(⟨g,0,none⟩:Addr).add i=⟨g,i,none⟩:=by unfold Addr.add;split <;> simp_all
theorem lS (a:Addr) (k:Nat):a.add (k+1)=⟨a.block,a.off+(k+1),none⟩:=by unfold Addr.add;simp
def dK (w:World) (A:Option Addr) (xs:List Int):Prop:=∀ i x,xs[i]?=some x->∃ a,A=some a/\w.cell? (a.add i)=some (.int .u8 x)
def ay (xs:List Int):Prop:=∀ x∈xs,0<=x/\x<256
def Bs (xs:List Int):List Value:=xs.map (.int .u8)
theorem kR {xs:List Int} {i:Nat} {x:Int} (h:xs[i]?=some x):(Bs xs)[i]?=some (.int .u8 x):=by unfold Bs;rw [List.getElem?_map,h];rfl
theorem ar (xs:List Int):(Bs xs).length=xs.length:=by unfold Bs;simp
theorem dK.keep {w w':World} {A:Option Addr} {xs:List Int} (h:dK w A xs) (b:Below w.heap.size w w'):dK w' A xs:=fun i x c =>
 let ⟨a,e,hs⟩:=h i x c;⟨a,e,cO b hs⟩
theorem dK.alloc {w:World} {A:Option Addr} {xs:List Int} (h:dK w A xs) (o:Obj):dK (w.alloc o) A xs:=fun i x b =>
 let ⟨a,e,hs⟩:=h i x b;⟨a,e,Ji hs o⟩
theorem dK.take {w:World} {A:Option Addr} {xs:List Int} (h:dK w A xs) (k:Nat):dK w A (xs.take k):=fun i x a=>h i x (by
 rw [List.getElem?_take] at a;split at a;exact a;cases a)
theorem gC {W:World} {r:Nat} {C:Array Value} {t:TypeId} {a:Nat × Nat} {bs:List Int} (h:W.heap[r]?=some (.cells C t a)) (b:C.toList=Bs bs):dK W (some ⟨r,0,none⟩) bs:=by
 intro i x c;refine ⟨_,rfl,?_⟩;rw [dU,cell_of_row _ _ _ _ _ _ h,<- Array.getElem?_toList,b];exact kR c
theorem bM {W:World} {B:Nat} {t:TypeId} {e:Value} {n:Nat} {bs:List Int} (h:W.ownsRow B t 1 e n (Bs bs)) (j:bs.length=n) :
 ∃ A d,e=.slice A bs.length d/\bs.length<=d/\d<=9223372036854775807/\dK W A bs:=by
 subst j;rcases h.2 with ⟨rfl,f⟩ | ⟨g,b,k,rfl,m,o,c,l,p,q⟩
 ·refine ⟨none,0,by rw [f],Ha,Ha,fun i s a=>?_⟩;rw [List.length_eq_zero_iff.1 f] at a;cases a
 ·refine ⟨some ⟨g,0,none⟩,b,rfl,c,by simp only [maxLen] at l;omega,fun i s a=>⟨_,rfl,?_⟩⟩;exact h.cells (g:=g) rfl _ _ (kR a)
def GA (A:Option Addr) (c k:Nat):Option Addr:=if c=k then A else A.map (·.add (k*1))
theorem DT {x y:Int} (a:0<=x/\x<256) (b:0<=y/\y<256) (h:UInt8.ofNat x.toNat=UInt8.ofNat y.toNat):x=y:=by
 have:=congrArg UInt8.toNat h;simp only [UInt8.toNat_ofNat'] at this;omega
theorem dA (xs:List Int):(strOfNums xs).toList=xs.map fun n=>UInt8.ofNat n.toNat:=by
 rw [ByteArray.toList_eq];rfl
theorem kz:∀ {xs ys:List Int},ay xs->ay ys->xs.map (fun n=>UInt8.ofNat n.toNat)=ys.map (fun n=>UInt8.ofNat n.toNat)->xs=ys
 | [],[],_,_,_=>rfl
 | [],_ :: _,_,_,h=>by simp at h
 | _ :: _,[],_,_,h=>by simp at h
 | x :: xs,y :: ys,b,c,h=>by
   rw [List.map_cons,List.map_cons] at h;injection h with d e
   rw [DT (b x Hb) (c y Hb) d,kz (fun v a=>b v (by simp [a])) (fun v a=>c v (by simp [a])) e]
theorem lT {xs ys:List Int} (a:ay xs) (b:ay ys):((strOfNums xs).toList==(strOfNums ys).toList)=decide (xs=ys):=by
 rw [dA,dA,Bool.eq_iff_iff];simp only [beq_iff_eq,decide_eq_true_eq];exact ⟨kz a b,fun h=>by rw [h]⟩
theorem dB {A:Option Addr} {xs:List Int} {n c:Nat} {w:World} (h:dK w A xs) (b:xs.length=n):(convert 22 9 (.slice A n c)).run Tryz.prog w=.ok (.string (strOfNums xs)) w:=by
 rcases A with _ | a
 ·have:xs=[]:=by
   cases xs with
   | nil=>rfl
   | cons x l=>obtain ⟨a,e,_⟩:=h 0 x rfl;cases e
  subst this;rw [run_convert_bytes_nil w 22 5 Tryz.underlying22 Tryz.underlying5 n c 9 Tryz.underlying9];rfl
 ·have d:(loadCells a n).run Tryz.prog w=.ok (Bs xs).toArray w:=by
   have:=run_loadCells_list (P:=Tryz.prog) w a (Bs xs) (fun j v hj=>by
    unfold Bs at hj;rw [List.getElem?_map] at hj;obtain ⟨x,f,rfl⟩:=Option.map_eq_some_iff.1 hj;obtain ⟨i,e,g⟩:=h j x f;injection e with e;subst e;exact g)
   have e:(Bs xs).length=n:=by rw [ar];exact b
   rw [e] at this;exact this
  rw [run_convert_bytes_string w 22 9 5 _ n c Tryz.underlying22 Tryz.underlying5 Tryz.underlying9,run_bytesToString w _ n c xs d,foldl_push_bytes];simp [strOfNums,ByteArray.empty,ByteArray.emptyWithCapacity];rfl
section
variable {H:Type} {enc:TypeId × Value->H} {w:World} {base:Nat} {spare:Nat->Bool} {held:Bool}
end
theorem jE:(Tryz.prog.info? 5).map (fun i=>(i.zero,i.size,i.bytes))=some (some (.int .u8 0),1,1):=Hc
theorem io (l:List Int):∀ u∈Bs l,u.oneCell'=true:=by
 intro u a;unfold Bs at a;obtain ⟨x,_,rfl⟩:=List.mem_map.1 a;rfl
theorem je (l m:List Int):Bs (l++m)=Bs l++Bs m:=List.map_append
theorem dZ {W W':World} (a:Below W.heap.size W W'):W.grownBy W' none:=⟨a.os,a.tape,a.output,a.size,fun k b _=>a.block k b⟩
theorem ic {W W':World} {base e sz n:Nat} {v:Value} {xs:List Value} (h:W.ownsRow base e sz v n xs) (a:Below W.heap.size W W'):W'.ownsRow base e sz v n xs :=
 h.kept (dZ a) (by cases v.ownBlock <;> simp)
theorem JO {w W W':World} {v:Value} {e sz n:Nat} {xs:List Value} (b:Below w.heap.size w W) (a:W.ownsRow w.heap.size e sz v n xs) (c:W.grownBy W' v.ownBlock):Below w.heap.size w W' :=
 b.grown c b.size (fun k d=>(a.lt k d).1)
theorem GB (W:World) (base:Nat) (t:TypeId) (n:Nat) (C:Array Value) (xs:List Value) (b:base<=W.heap.size) (a:C.size=n) (c:n<=maxLen) (d:C.toList=xs) :
 (W.alloc (.cells C t)).ownsRow base t 1 (.slice (some ⟨W.heap.size,0,none⟩) n n) n xs:=by
 subst d;refine ⟨by simp [a],Or.inr ⟨W.heap.size,n,C,rfl,b,heap_alloc_new W _,Nat.le_refl _,c,Ha,?_⟩⟩;exact List.take_of_length_le (by simp [a])
theorem iK (w:World) (ty:TypeId) (base:Nat) (v:Value) (n:Nat) (xs:List Int) (b:w.ownsRow base 5 1 v n (Bs xs)) (A:Option Addr) (m c:Nat) (ys:List Int) (q:dK w A ys) (r:ys.length=m)
 (s:n+m<=1000000) (d:base<=w.heap.size) :
 ∃ v' w',(Builtin.append_ #[22,22] ty #[v,.slice A m c]).run Tryz.prog w=.ok v' w'/\w'.ownsRow base 5 1 v' (n+m) (Bs (xs++ys))/\w.grownBy w' v.ownBlock /\
  (v'.ownBlock=v.ownBlock\/v'.ownBlock=some w.heap.size):=by
 obtain ⟨t,f,h,i,k⟩:=info_parts jE;rcases A with _ | a
 ·have o:ys=[]:=by
   cases ys with
   | nil=>rfl
   | cons y l=>obtain ⟨a,e,_⟩:=q 0 y rfl;cases e
  subst o;subst r;refine ⟨v,w,?_,by simpa using b,World.grownBy.refl w _,.inl rfl⟩;rcases b.2 with ⟨rfl,rfl⟩ | ⟨g,z,B,rfl,_,_,p,_⟩
  ·simp [Builtin.append_,run_underlying Tryz.underlying22,sizeOf,typeInfo,f,Builtin.lenOf,Builtin.firstCells]
  ·simp [Builtin.append_,run_underlying Tryz.underlying22,sizeOf,typeInfo,f,Builtin.lenOf,Builtin.firstCells,p,storeCells]
 ·obtain ⟨v',w',C,H,I,M,h5⟩:=run_append_own_at (P:=Tryz.prog) w base 22 ty 5 t (.int .u8 0) 1 1 Tryz.underlying22 f h i k rfl Hd v n _ b a m c (Bs ys) (by rw [ar];omega)
   (fun j u hj=>by
     unfold Bs at hj;rw [List.getElem?_map] at hj;obtain ⟨x,K,rfl⟩:=Option.map_eq_some_iff.1 hj;obtain ⟨N,e,L⟩:=q j x K;injection e with e;subst e;exact L) (io _) (by simp only [maxLen];omega) Ha d
  exact ⟨v',w',C,by rw [je];exact H,I,h5⟩
theorem zd (w:World) {o:Oper} {a:Act} {K:Act->World->Prop} {Q:Exit->Act->World->Prop} (s x:Operand)
 (l:o.op=.call { callee:=.builtin .append,args:=#[s,x],argTypes:=#[22,22] })
 (b:Nat) (v:Value) (n:Nat) (j:List Int) (p:a.eval s=v) (f:w.ownsRow b 5 1 v n (Bs j)) (A:Option Addr) (m c:Nat) (i:List Int) (q:a.eval x=.slice A m c) (r:dK w A i) (t:i.length=m)
 (k:n+m<=1000000) (d:b<=w.heap.size)
 (h:∀ e g,g.ownsRow b 5 1 e (n+m) (Bs (j++i))->w.grownBy g v.ownBlock->(e.ownBlock=v.ownBlock\/e.ownBlock=some w.heap.size)->K (a.put o.dst e) g):o.wp Tryz.prog a w K Q:=by
 obtain ⟨e,g,u,y,z,B⟩:=iK w o.type b v n j f A m c i r t k d;unfold Oper.wp execOp;simp only [l,resolve,invoke,builtin,Sem.run_bind,Sem.run_pure,Result.andThen_ok,List.map_toArray,List.map_cons,List.map_nil,p,q,u];exact h e g y z B
theorem cd (w:World) {ops:Array Oper} {rest:List Oper} {o:Oper} {a:Act} {Q:Exit->Act->World->Prop} (j:o.guard=none) (s x:Operand)
 (p:o.op=.call { callee:=.builtin .append,args:=#[s,x],argTypes:=#[22,22] })
 (b:Nat) (v:Value) (n:Nat) (k:List Int) (q:a.eval s=v) (f:w.ownsRow b 5 1 v n (Bs k)) (A:Option Addr) (m c:Nat) (i:List Int) (r:a.eval x=.slice A m c) (t:dK w A i) (u:i.length=m)
 (l:n+m<=1000000) (d:b<=w.heap.size)
 (h:∀ e g,g.ownsRow b 5 1 e (n+m) (Bs (k++i))->w.grownBy g v.ownBlock->(e.ownBlock=v.ownBlock\/e.ownBlock=some w.heap.size)->wpList Tryz.prog ops Q rest (a.put o.dst e) g):wpList Tryz.prog ops Q (o :: rest) a w :=
 wpList_plain j fun _ y=>zd w s x p b v n k q f A m c i r t u l d fun e g z B C=>y _ _ (h e g z B C)
theorem JP {W:World} {base:Nat} {t:TypeId} {v:Value} {n:Nat} {xs:List Int} (h:W.ownsRow base t 1 v n (Bs xs)) (j:0<n) :
 ∃ g cap,v=.slice (some ⟨g,0,none⟩) n cap/\n<=cap/\cap<=9223372036854775807/\base<=g/\g<W.heap.size/\(∀ k x,xs[k]?=some x->W.cell? ⟨g,k,none⟩=some (.int .u8 x))/\(∀ k,W.frozen? ⟨g,k,none⟩=false):=by
 rcases h.2 with ⟨_,l⟩ | ⟨g,cap,b,e,c,d,a,f,m,o⟩
 ·omega
 ·subst e;refine ⟨g,cap,rfl,a,by simp only [maxLen] at f;omega,c,(h.lt g rfl).2,fun k x i=>?_,fun k=>aA d k⟩;have:=h.cells (g:=g) rfl _ _ (kR i)
  rwa [dU] at this
theorem DU (xs:List Int) (k:Nat) (x:Int):(Bs xs).set k (.int .u8 x)=Bs (xs.set k x):=by unfold Bs;rw [List.map_set]
theorem ze {W:World} {base e n k g cap:Nat} {xs:List Value} (h:W.ownsRow base e 1 (.slice (some ⟨g,0,none⟩) n cap) n xs) (r:k<n) (u:Value) :
 (W.setCell ⟨g,k,none⟩ u).ownsRow base e 1 (.slice (some ⟨g,0,none⟩) n cap) n (xs.set k u):=by
 refine ⟨by rw [List.length_set];exact h.1,?_⟩;rcases h.2 with ⟨d,_⟩ | ⟨s,c,b,f,i,j,l,m,o,p⟩
 ·cases d
 ·injection f with a t q
  injection a with a;injection a with a
  subst a;subst q;refine Or.inr ⟨g,cap,b.setIfInBounds k u,rfl,i,ai j u,l,m,by simp [o],?_⟩;rw [Array.toList_setIfInBounds,List.take_set,p]
def be (n:Nat):Nat->List Int
 | 0=>[]
 | s+1=>((n/256 ^ s%256:Nat):Int) :: be n s
theorem au (n:Nat):∀ s,(be n s).length=s
 | 0=>rfl
 | s+1=>by show (be n s).length+1=s+1;rw [au n s]
theorem cF (n:Nat):∀ s,ay (be n s)
 | 0=>fun x a=>by cases a
 | s+1=>fun x a=>by
   rcases List.mem_cons.1 a with rfl | h
   ·have:=Nat.mod_lt (n/256 ^ s) (show 0<256 by omega);omega
   ·exact cF n s x h
theorem AJ {a b:Nat} (c:a<65536) (d:b<65536) (h:be a 2=be b 2):a=b:=by
 unfold be be be at h;simp only [List.cons.injEq,Nat.pow_succ,Nat.pow_zero,Nat.one_mul,Nat.div_one,and_true] at h;omega
theorem zf (n:Nat):be n 4=[((n/16777216%256:Nat):Int),((n/65536%256:Nat):Int),((n/256%256:Nat):Int),((n/1%256:Nat):Int)]:=rfl
theorem DV (n:Nat):be n 2=[((n/256%256:Nat):Int),((n/1%256:Nat):Int)]:=rfl
theorem uY {a b:Nat} (o:a<4294967296) (p:b<4294967296) (h:be a 4=be b 4):a=b:=by
 rw [zf,zf] at h;have j:=Int.ofNat.inj (List.cons.inj h).1;have k:=Int.ofNat.inj (List.cons.inj (List.cons.inj h).2).1;have q:=Int.ofNat.inj (List.cons.inj (List.cons.inj (List.cons.inj h).2).2).1;have l:=Int.ofNat.inj (List.cons.inj (List.cons.inj (List.cons.inj (List.cons.inj h).2).2).2).1;clear h;rw [Nat.div_one,Nat.div_one] at l;have m:=Nat.div_add_mod a 256;have r:=Nat.div_add_mod b 256;have e:a/65536=a/256/256:=by rw [Nat.div_div_eq_div_mul]
 have f:b/65536=b/256/256:=by rw [Nat.div_div_eq_div_mul]
 have g:a/16777216=a/256/256/256:=by rw [Nat.div_div_eq_div_mul,Nat.div_div_eq_div_mul]
 have i:b/16777216=b/256/256/256:=by rw [Nat.div_div_eq_div_mul,Nat.div_div_eq_div_mul]
 have s:a/16777216<256:=Nat.div_lt_of_lt_mul o;have t:b/16777216<256:=Nat.div_lt_of_lt_mul p;rw [Nat.mod_eq_of_lt s,Nat.mod_eq_of_lt t,g,i] at j;rw [e,f] at k;generalize a/256=c at *;generalize b/256=d at *;have n:=Nat.div_add_mod c 256;have u:=Nat.div_add_mod d 256;have f3:=Nat.div_add_mod (c/256) 256;have v:=Nat.div_add_mod (d/256) 256;rw [j,k] at f3;have w:c/256=d/256:=f3.symm.trans v;rw [w,q] at n;have f6:c=d:=n.symm.trans u;rw [f6,l] at m;exact m.symm.trans r
theorem ay.append {xs ys:List Int} (a:ay xs) (b:ay ys):ay (xs++ys):=fun x h=>(List.mem_append.1 h).elim (a x) (b x)
theorem sI {α:Type} (l:List α) (k:Nat) (x:α) (h:k<l.length):(l.set k x).drop k=x :: l.drop (k+1):=by
 induction l generalizing k with
 | nil=>cases h
 | cons y l ih =>
   cases k with
   | zero=>rfl
   | succ k=>exact ih k (by simpa using h)
theorem al (W:World) (o:Obj):(W.alloc o).heap.size=W.heap.size+1:=by show (W.heap.push o).size=_;simp
theorem GC (v m:Nat):v/256 ^ m/256=v/256 ^ (m+1):=by rw [Nat.div_div_eq_div_mul,Nat.pow_succ]
theorem GD (v n:Nat) (w:World) (A:v<18446744073709551616) (U:n<=8) :
 Calls Tryz.prog 128 #[.int .u64 v,.int .i64 n] w fun e w'=>e=.returned (.slice (some ⟨w.heap.size,0,none⟩) n n)/\(∃ C,w'.heap[w.heap.size]?=some (.cells C 5 (0,0))/\C.toList=Bs (be v n))/\Below w.heap.size w w':=by
 obtain ⟨B,H,o,p,q⟩:=info_parts jE;have f:=fun w:World=>run_make (P:=Tryz.prog) w 22 5 B _ Tryz.underlying22 H o .i64 .i64 (n:Int) (n:Int) Ha Ha (by rw [q];omega) Ha;generalize I:madeCells (Value.int .u8 0).cells ((n:Int).toNat*B.size)=r at f;have K:Hid (r.size=n):=by rw [<- I,size_madeCells,p];unfold Hid;simp
 rw [show ((n:Int)).toNat=n by omega] at f;clear I H o p q;have s:Hid (∀ C,Below w.heap.size w (w.alloc (Obj.cells C 5))):=fun C=>(Below.refl _ _).alloc (Nat.le_refl _) _;go_enter Tryz.func128,Tryz.ntmps128;go_wp2;have a:=heap_alloc_new w (Obj.cells r 5);have l:=s.out r;have S:=He A;generalize w.alloc (Obj.cells r 5)=W0 at *;have V:Hid (w.heap.size=w.heap.size):=rfl;generalize W:w.heap.size=g at *;clear f s A
 go_loopw [0,6] (fun z i wr=>∃ (j:Nat) (C:Array Value) (x:Nat),i=.int .i64 ((j:Int)-1)/\z=.int .u64 x/\j<=n/\x=v/256 ^ (n-j)/\wr.heap[g]?=some (.cells C 5 (0,0))/\C.size=n/\C.toList.drop j=Bs (be v (n-j))/\Below g w wr) (fun _ i _=>(intOf i+1).toNat)
 case atStart =>
  refine ⟨n,r,v,rfl,rfl,Nat.le_refl _,Hb,a,K.out,?_,l⟩;rw [Nat.sub_self,List.drop_of_length_le (by rw [Array.length_toList,K.out];omega)];rfl
 case round =>
  obtain ⟨j,C,x,rfl,rfl,hj,t,c,m,L,d⟩:=hrel;have M:=He t;have b:=He c;have N:=He L;have T:x<18446744073709551616:=by rw [t];exact Nat.lt_of_le_of_lt (Nat.div_le_self _ _) S.out
  clear t c L a;by_cases y:j=0
  ·subst y;go_wp2;go_ret;refine ⟨rfl,⟨C,b.out,?_⟩,d⟩;have h:=N.out;rw [List.drop_zero,Nat.sub_zero] at h;exact h
  ·obtain ⟨k,rfl⟩:∃ k,j=k+1:=⟨j-1,Ha⟩
   have O:((k+1:Nat):Int)-1=k:=Ha;rw [O];obtain ⟨u,R⟩:∃ u,C[k]?=some u:=⟨_,Array.getElem?_eq_getElem (by rw [m];omega)⟩
   have X:wr.cell? ⟨g,k,none⟩=some u:=(af b.out k).trans R;have Y:wr.frozen? ⟨g,k,none⟩=false:=aA b.out k;clear R O;go_wp2
   go_roundw
   case rel =>
    refine ⟨k,_,x/256,by go_num,by go_num,Ha,?_,ai b.out _,by simp [m],?_,d.setCell (Nat.le_refl _) _⟩
    ·rw [M.out,GC,show n-(k+1)+1=n-k by omega]
    ·rw [Array.toList_setIfInBounds,show n-k=(n-(k+1))+1 by omega];show _=Bs (((v/256 ^ (n-(k+1))%256:Nat):Int) :: be v (n-(k+1)));rw [<- M.out];rw [sI _ _ _ (by simp [m];omega),N.out];unfold Bs;rw [List.map_cons]
     congr 1
     try simp
   case measure=>simp [intOf]
def aD (w:World) (base:Nat) (v:Value) (xs:List Int):Prop:=∃ q C,v=.slice (some ⟨q,0,none⟩) xs.length xs.length/\base<=q/\w.heap[q]?=some (.cells C 5 (0,0))/\C.toList=Bs xs
theorem aD.size {C:Array Value} {xs:List Int} (h:C.toList=Bs xs):C.size=xs.length:=by rw [<- Array.length_toList,h,ar]
theorem aD.own {w:World} {base:Nat} {v:Value} {xs:List Int} (h:aD w base v xs) (b:xs.length<=maxLen):w.ownsRow base 5 1 v xs.length (Bs xs):=by
 obtain ⟨q,C,rfl,c,d,a⟩:=h;exact ⟨by rw [ar];omega,Or.inr ⟨q,xs.length,C,rfl,c,d,Nat.le_refl _,b,by rw [aD.size a];omega,by rw [a];exact List.take_of_length_le (by rw [ar];omega)⟩⟩
theorem aD.byt {w:World} {base:Nat} {v:Value} {xs:List Int} (h:aD w base v xs):∃ q,v=.slice (some ⟨q,0,none⟩) xs.length xs.length/\dK w (some ⟨q,0,none⟩) xs:=by
 obtain ⟨q,C,rfl,c,a,b⟩:=h;exact ⟨q,rfl,gC a b⟩
theorem aD.grown {w w':World} {base:Nat} {v:Value} {xs:List Int} (h:aD w base v xs) (b:w.grownBy w' none):aD w' base v xs:=by
 obtain ⟨q,C,rfl,c,a,d⟩:=h;exact ⟨q,C,rfl,c,by rw [b.block q (ah a) Hb];exact a,d⟩
theorem aD.mono {w:World} {base a:Nat} {v:Value} {xs:List Int} (h:aD w base v xs) (b:a<=base):aD w a v xs:=by
 obtain ⟨q,C,rfl,c,d,e⟩:=h;exact ⟨q,C,rfl,Nat.le_trans b c,d,e⟩
theorem lU (v n:Nat) (w:World) (a:v<18446744073709551616) (b:n<=8) :
 Calls Tryz.prog 128 #[.int .u64 v,.int .i64 n] w fun e w'=>∃ u,e=.returned u/\aD w' w.heap.size u (be v n)/\Below w.heap.size w w' :=
 (GD v n w a b).mono fun e w' ⟨c,⟨C,d,f⟩,g⟩=>⟨_,c,⟨_,C,by rw [au],Nat.le_refl _,d,f⟩,g⟩
theorem BZ (v n:Nat) (w:World) (a:v<18446744073709551616) (b:n<=8) :
 Calls Tryz.prog 128 #[.int .u64 v,.int .i64 n] w fun e w'=>∃ v',e=.returned v'/\w'.ownsRow w.heap.size 5 1 v' n (Bs (be v n))/\Below w.heap.size w w' :=
 (lU v n w a b).mono fun e w' ⟨u,c,d,f⟩=>⟨u,c,by have:=d.own (by rw [au];simp only [maxLen];omega);rwa [au] at this,f⟩
def aB (xs:List Int):Nat:=xs.foldl (fun n x=>n*256+x.toNat) 0
theorem ka (xs:List Int) (x:Int):aB (xs++[x])=aB xs*256+x.toNat:=by unfold aB;rw [List.foldl_append];rfl
theorem i5:∀ (s:Nat) (xs:List Int),xs.length=s->ay xs->aB xs<256 ^ s:=by
 intro s
 induction s with
 | zero=>intro xs h _;rw [List.length_eq_zero_iff.1 h];unfold aB;simp
 | succ s ih =>
   intro xs h a;rcases List.eq_nil_or_concat xs with rfl | ⟨l,x,rfl⟩
   ·cases h
   ·rw [List.concat_eq_append] at *;rw [ka,Nat.pow_succ];have c:=ih l (by simp at h;exact h) (fun y b=>a y (by simp [b]));have d:=a x Hb;omega
theorem DW (n x:Nat) (a:x<256):∀ s,be (n*256+x) (s+1)=be n s++[(x:Int)]
 | 0=>by
   show [(((n*256+x)/256 ^ 0%256:Nat):Int)]=[(x:Int)]
   rw [Nat.pow_zero,Nat.div_one,show (n*256+x)%256=x by omega]
 | s+1=>by
   show (((n*256+x)/256 ^ (s+1)%256:Nat):Int) :: be (n*256+x) (s+1)=(((n/256 ^ s%256:Nat):Int) :: be n s)++[(x:Int)]
   rw [DW n x a s,Nat.pow_succ,Nat.mul_comm (256 ^ s) 256,<- Nat.div_div_eq_div_mul,show (n*256+x)/256=n by omega];rfl
theorem GE (n s:Nat):be n (s+1)=be (n/256) s++[((n%256:Nat):Int)]:=by
 have h:=DW (n/256) (n%256) (Nat.mod_lt _ Ha) s
 rwa [show n/256*256+n%256=n by omega] at h
theorem nD:∀ (s n:Nat),n<256 ^ s->aB (be n s)=n
 | 0,n,h=>by simp at h;subst h;rfl
 | s+1,n,h=>by
   rw [GE,ka,nD s (n/256) (by rw [Nat.pow_succ] at h;exact Nat.div_lt_of_lt_mul Ha),Int.toNat_natCast];omega
theorem AK (a y:Nat) (d:a<16777216) (e:y<256):bits .or .u32 ((a:Int)*256) (y:Int)=((a*256+y:Nat):Int):=by
 have h:=u32_or_nat (a*256) y Ha Ha;have c:=Nat.two_pow_add_eq_or_of_lt (i:=8) (b:=y) Ha a;rw [show (2 ^ 8*a:Nat)=a*256 by omega] at c;rw [<- c] at h;rw [<- h,Int.natCast_mul];rfl
theorem kW (A:Option Addr) (xs:List Int) (n d:Nat) (w:World) (j:xs.length=n) (v:n<=4) (l:ay xs) (m:dK w A xs) :
 Calls Tryz.prog 126 #[.slice A n d] w fun e w'=>e=.returned (.int .u64 (aB xs))/\w=w':=by
 have o:=He m;have c:=He j;have HB:=He l;clear j l m;go_enter Tryz.func126,Tryz.ntmps126;go_wp2
 go_loop [3,4] (fun z i=>∃ k:Nat,k<=n/\i=.int .i64 k/\z=.int .u64 (aB (xs.take k):Nat)) (fun _ i=>n-(intOf i).toNat)
 case atStart=>exact ⟨0,Nat.zero_le _,rfl,rfl⟩
 case round =>
  obtain ⟨k,B,rfl,rfl⟩:=hrel;by_cases f:k<n
  ·obtain ⟨x,b⟩:∃ x,xs[k]?=some x:=⟨_,List.getElem?_eq_getElem (by rw [c.out];exact f)⟩
   obtain ⟨C,rfl,p⟩:=o.out k x b;have g:=HB.out x (List.mem_of_getElem? b);obtain ⟨y,rfl⟩:∃ y:Nat,x=(y:Int):=⟨x.toNat,Ha⟩
   have q:y<256:=Ha;have r:Hid (aB (xs.take (k+1))=aB (xs.take k)*256+y):=by
    unfold Hid;rw [aw b,ka,Int.toNat_natCast]
   have s:=i5 k (xs.take k) (by rw [List.length_take,c.out];omega) (fun z t=>HB.out z (List.mem_of_mem_take t));have h:256 ^ k<=256 ^ 3:=Nat.pow_le_pow_right Ha Ha;have u:aB (xs.take k)<16777216:=Ha;clear b g s h;generalize aB (xs.take k)=a at *;have H:IntKind.u64.wrap (y:Int)=y:=IntWalk.u64_in _ Ha;have I:IntKind.u64.wrap ((a:Int)*256)=(a:Int)*256:=IntWalk.u64_in _ Ha;have K:IntKind.u64.wrap ((a:Int)*256+y)=(a:Int)*256+y:=IntWalk.u64_in _ Ha;go_wp2
   go_round
   case rel=>exact ⟨k+1,Ha,by go_num,by rw [r.out];go_num⟩
   case measure=>simp [intOf];omega
  ·have e:xs.take k=xs:=List.take_of_length_le (by rw [c.out];omega);rw [e];go_wp2;go_ret;exact ⟨rfl,rfl⟩
structure aE (F:Nat->Prop) (w w':World):Prop where
 os:w'.os=w.os
 tape:w'.tape=w.tape
 output:w'.output=w.output
 size:w.heap.size<=w'.heap.size
 block:∀ k,k<w.heap.size->¬ F k->w'.heap[k]?=w.heap[k]?
theorem aE.refl (F:Nat->Prop) (w:World):aE F w w:=⟨rfl,rfl,rfl,Nat.le_refl _,fun _ _ _=>rfl⟩
theorem aE.trans' {F G:Nat->Prop} {a b c:World} (h:aE F a b) (k:aE G b c) (g:∀ x,G x->F x\/a.heap.size<=x):aE F a c :=
 ⟨k.os.trans h.os,k.tape.trans h.tape,k.output.trans h.output,Nat.le_trans h.size k.size,fun i d e =>
   (k.block i (Nat.lt_of_lt_of_le d h.size) (fun j=>by rcases g i j with f | f;exact e f;omega)).trans (h.block i d e)⟩
theorem aE.trans {F:Nat->Prop} {a b c:World} (h:aE F a b) (k:aE F b c):aE F a c:=h.trans' k fun _ h=>Or.inl h
theorem aE.mono {F G:Nat->Prop} {a b:World} (h:aE F a b) (d:∀ x,x<a.heap.size->F x->G x):aE G a b :=
 ⟨h.os,h.tape,h.output,h.size,fun k c e=>h.block k c fun f=>e (d k c f)⟩
theorem aE.of_below {w w':World} (h:Below w.heap.size w w') (F:Nat->Prop):aE F w w':=⟨h.os,h.tape,h.output,h.size,fun k a _=>h.block k a⟩
theorem aE.below {F:Nat->Prop} {w w':World} {B:Nat} (h:aE F w w') (c:B<=w.heap.size) (a:∀ k,F k->B<=k):Below B w w' :=
 ⟨h.os,h.tape,h.output,h.size,fun k d=>h.block k Ha fun b=>by have:=a k b;omega⟩
theorem aE.of_grown {w w':World} {row:Option Nat} (h:w.grownBy w' row):aE (fun k=>some k=row) w w':=⟨h.os,h.tape,h.output,h.size,fun k a b=>h.block k a b⟩
theorem aE.drew {F:Nat->Prop} {a w:World} (h:aE F a w):aE F a w.drew:=⟨h.os,h.tape,h.output,h.size,h.block⟩
theorem aE.drewN {F:Nat->Prop} {a w:World} (h:aE F a w) (n:Nat):aE F a (w.drewN n):=⟨h.os,h.tape,h.output,h.size,h.block⟩
theorem aE.alloc {F:Nat->Prop} {a w:World} (h:aE F a w) (o:Obj):aE F a (w.alloc o) :=
 h.trans ⟨rfl,rfl,rfl,Hb,fun k b _=>Below.heap_alloc w o k b⟩
theorem aE.setCell {F:Nat->Prop} {a w:World} (h:aE F a w) {p:Addr} (hp:F p.block) (u:Value):aE F a (w.setCell p u) :=
 h.trans ⟨rfl,rfl,rfl,by simp [World.setCell],fun k _ b=>Below.heap_setCell _ _ _ _ (fun e=>b (e ▸ hp))⟩
theorem my (b:Nat):∀ (vs:List Value) (o:Nat) (w:World),(w.setCells b o vs).heap.size=w.heap.size
 | [],_,_=>rfl
 | v :: r,o,w=>by rw [World.setCells,my b r];simp [World.setCell]
theorem bv (b:Nat):∀ (vs:List Value) (o:Nat) (w:World) (k:Nat),k≠b->(w.setCells b o vs).heap[k]?=w.heap[k]?
 | [],_,_,_,_=>rfl
 | v :: r,o,w,k,h=>by rw [World.setCells,bv b r _ _ _ h,Below.heap_setCell _ _ _ _ h]
theorem i6 (b:Nat):∀ (vs:List Value) (o:Nat) (w:World),(w.setCells b o vs).os=w.os/\(w.setCells b o vs).tape=w.tape/\(w.setCells b o vs).output=w.output
 | [],_,_=>⟨rfl,rfl,rfl⟩
 | v :: r,o,w=>by rw [World.setCells];exact i6 b r (o+1) _
theorem iD (b:Nat) (t:TypeId):∀ (vs:List Value) (o:Nat) (w:World) (C:List Value),w.heap[b]?=some (.cells C.toArray t (0,0))->o+vs.length<=C.length ->
 (w.setCells b o vs).heap[b]?=some (.cells (splice C o vs).toArray t (0,0))
 | [],o,w,C,h,_=>by simpa [splice,World.setCells] using h
 | v :: r,o,w,C,h,a=>by
   rw [World.setCells];have e:(w.setCell ⟨b,o,none⟩ v).heap[b]?=some (.cells (C.set o v).toArray t (0,0)):=by
    rw [heap_setCell_same w b o C.toArray t v h];simp
   rw [iD b t r (o+1) _ _ e (by simp at a ⊢;omega)]
   congr 3
   simp only [List.length_cons] at a;unfold splice;apply List.ext_getElem?;intro i;rw [List.getElem?_append,List.getElem?_append,List.getElem?_append,List.getElem?_append];simp only [List.length_take,List.length_set,List.getElem?_take,List.getElem?_drop,List.getElem?_set,List.length_cons,List.getElem?_cons];have f:min (o+1) C.length=o+1:=Ha;have g:min o C.length=o:=Ha;rw [f,g];by_cases c:i<o
   ·simp [c,show i<o+1 by omega,show ¬ o=i by omega]
   ·by_cases j:i=o
    ·subst j;simp [show i<C.length by omega]
    ·have k:¬ i<o+1:=Ha;simp only [c,k,if_false];by_cases d:i-(o+1)<r.length
     ·simp [d,show i-o<r.length+1 by omega,show ¬ i-o=0 by omega,show i-o-1=i-(o+1) by omega]
     ·simp only [d,if_false,show ¬ i-o<r.length+1 by omega];rw [if_neg Ha]
      congr 1;omega
theorem aE.setCells {F:Nat->Prop} {a w:World} (h:aE F a w) {b:Nat} (hp:F b) (o:Nat) (vs:List Value):aE F a (w.setCells b o vs) :=
 h.trans ⟨(i6 b vs o w).1,(i6 b vs o w).2.1,(i6 b vs o w).2.2,by rw [my];exact Nat.le_refl _,fun k _ c=>bv b vs o w k (fun e=>c (e ▸ hp))⟩
def aI (w:World) (Own:Nat->Prop) (E:TypeId) (sz:Nat) (v:Value) (n:Nat) (xs:List Value):Prop :=
 w.ownsRow 0 E sz v n xs/\∀ g,v.ownBlock=some g->Own g
section
variable {w w':World} {Own:Nat->Prop} {E:TypeId} {sz:Nat} {v:Value} {n:Nat} {xs:List Value}
theorem aI.len (h:aI w Own E sz v n xs):xs.length=n*sz:=h.1.1
theorem aI.keep (h:aI w Own E sz v n xs) (d:∀ k,k<w.heap.size->Own k->w'.heap[k]?=w.heap[k]?):aI w' Own E sz v n xs:=by
 refine ⟨⟨h.1.1,?_⟩,h.2⟩;rcases h.1.2 with e | ⟨g,a,b,rfl,f,c,i⟩
 ·exact Or.inl e
 ·refine Or.inr ⟨g,a,b,rfl,f,?_,i⟩;rw [d g (ah c) (h.2 g rfl)];exact c
theorem aI.below (h:aI w Own E sz v n xs) (a:Below w.heap.size w w'):aI w' Own E sz v n xs:=h.keep fun k b _=>a.block k b
theorem aI.owner {Own':Nat->Prop} (h:aI w Own E sz v n xs) (b:∀ g,g<w.heap.size->Own g->Own' g):aI w Own' E sz v n xs :=
 ⟨h.1,fun g a=>b g (h.1.lt g a).2 (h.2 g a)⟩
theorem aI.val (h:aI w Own E sz v n xs):∃ A cap,v=.slice A n cap/\n<=cap/\cap<=9223372036854775807:=by
 rcases h.1.2 with ⟨rfl,a⟩ | ⟨g,cap,b,rfl,e,f,c,d,_⟩
 ·exact ⟨none,0,by rw [a],Ha,Ha⟩
 ·exact ⟨_,cap,rfl,c,by simp only [maxLen] at d;omega⟩
theorem aI.pos (h:aI w Own E sz v n xs) (e:0<n) :
 ∃ g cap,v=.slice (some ⟨g,0,none⟩) n cap/\Own g/\g<w.heap.size/\n<=cap/\cap<=9223372036854775807/\(∀ j,j<n*sz->w.cell? ⟨g,j,none⟩=xs[j]?)/\∀ j,w.frozen? ⟨g,j,none⟩=false:=by
 rcases h.1.2 with ⟨_,f⟩ | ⟨g,cap,b,rfl,i,c,a,d,k,l⟩
 ·omega
 ·exact ⟨g,cap,rfl,h.2 g rfl,ah c,a,by simp only [maxLen] at d;omega,fun j hj=>h.1.cellAt j hj,fun j=>h.1.frozenAt j⟩
theorem aI.one {g cap:Nat} (h:aI w Own E 1 (.slice (some ⟨g,0,none⟩) n cap) n xs) {j:Nat} {x:Value} (a:xs[j]?=some x):w.cell? ⟨g,j,none⟩=some x:=by
 have hj:=(List.getElem?_eq_some_iff.1 a).1;rw [h.1.cellAt j (by have:=h.len;omega)];exact a
theorem aI.nil (w:World) (Own:Nat->Prop) (E:TypeId) (sz:Nat):aI w Own E sz (.slice none 0 0) 0 []:=⟨World.ownsRow_nil _ _ _ _,fun g h=>by cases h⟩
theorem aI.stored {g cap:Nat} (h:aI w Own E sz (.slice (some ⟨g,0,none⟩) n cap) n xs) (j:Nat) (u:Value):aI (w.setCell ⟨g,j,none⟩ u) Own E sz (.slice (some ⟨g,0,none⟩) n cap) n (xs.set j u) :=
 ⟨(h.1.stored j u).1,h.2⟩
theorem aI.storedMany {g cap:Nat} (h:aI w Own E sz (.slice (some ⟨g,0,none⟩) n cap) n xs) (o:Nat) (us:List Value) (j:o+us.length<=n*sz) :
 aI (w.setCells g o us) Own E sz (.slice (some ⟨g,0,none⟩) n cap) n (splice xs o us):=by
 refine ⟨⟨by rw [length_splice _ _ _ (by rw [h.len];exact j)];exact h.len,?_⟩,h.2⟩;rcases h.1.2 with ⟨f,_⟩ | ⟨t,i,a,f,k,m,c,p,q,r⟩
 ·cases f
 ·injection f with b u s
  injection b with b;injection b with b
  subst b;subst s;have v:n*sz<=cap*sz:=Nat.mul_le_mul_right _ c;have d:a.toList.length=cap*sz:=by rw [<- q];simp
  have e:o+us.length<=a.toList.length:=Ha;have:=iD g E us o w a.toList (by simpa using m) e;refine Or.inr ⟨g,cap,_,rfl,k,this,c,p,?_,?_⟩
  ·rw [List.size_toArray,length_splice _ _ _ e,d]
  ·rw [<- r];unfold splice;rw [List.take_append,List.take_take,List.length_take,d];have b:min o (cap*sz)=o:=Ha;rw [b,List.take_append,show min (n*sz) o=o by omega,List.take_of_length_le (l:=us) Ha,List.take_take,show min o (n*sz)=o by omega]
   congr 2
   rw [List.take_drop,show o+us.length+(n*sz-o-us.length)=n*sz by omega]
theorem aI.there {g cap:Nat} (h:aI w Own E sz (.slice (some ⟨g,0,none⟩) n cap) n xs) (o m:Nat) (a:o+m<=n*sz):w.there g o m:=fun j hj=>by
 have b:=h.len;exact ⟨by rw [h.1.cellAt _ Ha,List.getElem?_eq_getElem Ha];rfl,h.1.frozenAt _⟩
end
def cC {α:Type} (w:World) (c:Nat->Prop) (d:Nat->Nat->Prop) (e f:TypeId) (sz:Nat) (enc:List α->List Value) (v:Value) (rows:List (List α)):Prop :=
 ∃ b,aI w c e 1 v rows.length b/\∀ r a,rows[r]?=some a->∃ u,b[r]?=some u/\aI w (d r) f sz u a.length (enc a)
section
variable {α:Type} {w w':World} {OT:Nat->Prop} {OR:Nat->Nat->Prop} {ET ER:TypeId} {sz:Nat} {enc:List α->List Value} {v:Value} {rows:List (List α)}
theorem cC.keep (h:cC w OT OR ET ER sz enc v rows) (d:∀ k,k<w.heap.size->OT k\/(∃ r,OR r k)->w'.heap[k]?=w.heap[k]?):cC w' OT OR ET ER sz enc v rows:=by
 obtain ⟨e,f,g⟩:=h;refine ⟨e,f.keep fun k a b=>d k a (Or.inl b),fun r c i=>?_⟩;obtain ⟨u,j,l⟩:=g r c i;exact ⟨u,j,l.keep fun k a b=>d k a (Or.inr ⟨r,b⟩)⟩
theorem cC.owner {OT':Nat->Prop} {OR':Nat->Nat->Prop} (h:cC w OT OR ET ER sz enc v rows) (b:∀ k,k<w.heap.size->OT k->OT' k) (c:∀ r k,k<w.heap.size->OR r k->OR' r k):cC w OT' OR' ET ER sz enc v rows:=by
 obtain ⟨d,e,f⟩:=h;refine ⟨d,e.owner b,fun r a g=>?_⟩;obtain ⟨u,i,h5⟩:=f r a g;exact ⟨u,i,h5.owner (c r)⟩
theorem cC.val (h:cC w OT OR ET ER sz enc v rows):∃ A cap,v=.slice A rows.length cap/\rows.length<=cap/\cap<=9223372036854775807:=by
 obtain ⟨b,a,_⟩:=h;exact a.val
theorem cC.row {r:Nat} {row:List α} (h:cC w OT OR ET ER sz enc v rows) (a:rows[r]?=some row) :
 ∃ g cap u,v=.slice (some ⟨g,0,none⟩) rows.length cap/\OT g/\g<w.heap.size/\w.cell? ⟨g,r,none⟩=some u/\w.frozen? ⟨g,r,none⟩=false/\aI w (OR r) ER sz u row.length (enc row):=by
 obtain ⟨m,b,c⟩:=h;obtain ⟨u,d,e⟩:=c r row a;have f:=(List.getElem?_eq_some_iff.1 a).1;obtain ⟨g,cap,rfl,i,j,_,_,k,l⟩:=b.pos Ha;exact ⟨g,cap,u,rfl,i,j,by rw [k r Ha];exact d,l r,e⟩
theorem cC.nil (w:World) (a:Nat->Prop) (b:Nat->Nat->Prop) (c d:TypeId) (sz:Nat) (enc:List α->List Value):cC w a b c d sz enc (.slice none 0 0) [] :=
 ⟨[],aI.nil _ _ _ _,fun r e h=>by cases h⟩
end
section
variable {P:Program} {o:Oper} {a:Act} {w w':World} {K:Act->World->Prop} {Q:Exit->Act->World->Prop}
theorem jT {v:Value} (h:(execOp a.eval o).run P w=.ok (.value v) w') (b:K (a.put o.dst v) w'):o.wp P a w K Q:=by
 simp only [Oper.wp,h,Oper.upon];exact b
theorem ce (t:TypeId) (b:o.op=.alloc t) (i:TypeInfo) (z:Value) (c:P.info? t=some i) (d:i.zero=some z)
 (e:K (a.put o.dst (.pointer (some ⟨w.heap.size,0,none⟩))) (w.alloc (.cells z.cells t))):o.wp P a w K Q:=by
 refine jT (v:=.pointer (some ⟨w.heap.size,0,none⟩)) ?_ e;unfold execOp;simp [b,Instr.alloc,zeroValue,typeInfo,c,d,newVar,newRow]
theorem kA (t:TypeId) (x y:Operand) (k:o.op=.makeSlice t x y) (e:TypeId) (i:TypeInfo) (z:Value) (size:Nat) (l:P.underlying t=some (.slice e)) (m:P.info? e=some i) (p:i.zero=some z) (q:i.size=size)
 (n:Nat) (d f:IntKind) (r:a.eval x=.int d n) (s:a.eval y=.int f n) (A:i.bytes*n<=281474976710656) (g:n<=maxLen)
 (u:∀ w',w'.ownsRow 0 e size (.slice (some ⟨w.heap.size,0,none⟩) n n) n (madeCells z.cells (n*size)).toList->w.grownBy w' none->w'.heap.size=w.heap.size+1->K (a.put o.dst (.slice (some ⟨w.heap.size,0,none⟩) n n)) w'):o.wp P a w K Q:=by
 subst q;have b:(n:Int)<=9223372036854775807:=by simp [maxLen] at g;omega
 have c:(i.bytes:Int)*(n:Int)<=281474976710656:=by
  have h:((i.bytes*n:Nat):Int)<=281474976710656:=Ha
  rwa [Int.natCast_mul] at h
 have j:=run_make (P:=P) w t e i z l m p d f n n Ha (Int.le_refl _) c b;simp only [Int.toNat_natCast] at j;refine jT (v:=.slice (some ⟨w.heap.size,0,none⟩) n n) (w':=w.alloc (.cells (madeCells z.cells (n*i.size)) e)) ?_ (u _ (World.ownsRow_lit w _ n (Nat.zero_le _) g (size_madeCells _ _)) (World.grownBy_alloc w _ none) Hb);unfold execOp;simp only [k,r,s,Sem.run_bind,j,Result.andThen_ok,Sem.run_pure]
theorem GF (vs:List Value):∀ (k off:Nat) (cs:Array Value),off+k+vs.length<=cs.size ->
 ((vs.zipIdx k).foldl (fun (cs:Array Value) (x:Value × Nat)=>cs.setIfInBounds (off+x.2) x.1) cs).toList=splice cs.toList (off+k) vs:=by
 induction vs with
 | nil=>intro k off cs _;simp [splice]
 | cons v r ih =>
   intro k off cs h;simp only [List.zipIdx_cons,List.foldl_cons];simp only [List.length_cons] at h;rw [ih (k+1) off _ (by simp;omega),Array.toList_setIfInBounds];unfold splice;apply List.ext_getElem?;intro i;rw [List.getElem?_append,List.getElem?_append,List.getElem?_append,List.getElem?_append];simp only [List.length_take,List.length_set,List.getElem?_take,List.getElem?_drop,List.getElem?_set,List.length_cons,List.getElem?_cons,Array.length_toList];have c:min (off+(k+1)) cs.size=off+k+1:=Ha;have d:min (off+k) cs.size=off+k:=Ha;rw [c,d];by_cases a:i<off+k
   ·simp [a,show i<off+k+1 by omega,show ¬ off+k=i by omega,show i<off+(k+1) by omega]
   ·by_cases e:i=off+k
    ·subst e;simp [show off+k<cs.size by omega,show off+k<off+(k+1) by omega]
    ·have f:¬ i<off+k+1:=Ha;simp only [a,f,if_false];by_cases b:i-(off+k+1)<r.length
     ·simp [b,show i-(off+k)<r.length+1 by omega,show ¬ i-(off+k)=0 by omega,show i-(off+k)-1=i-(off+k+1) by omega]
     ·simp only [b,if_false,show ¬ i-(off+k)<r.length+1 by omega];rw [if_neg Ha]
      congr 1;omega
theorem gG {b:Nat->Option (Nat × Nat)} {a:Array Value} {i off size:Nat} {v:Value} {rest:List (Nat × Value)} (hp:b i=some (off,size)) (c:v.cells.size=size) (d:off+size<=a.size) :
 Instr.fill b a ((i,v) :: rest)=Instr.fill b (splice a.toList off v.cells.toList).toArray rest:=by
 rw [Instr.fill,hp];dsimp only;rw [if_neg (by simp [c];omega)]
 congr 1
 have:=GF v.cells.toList 0 off a (by simp [c];omega);rw [Nat.add_zero] at this;rw [<- this,Array.toArray_toList,<- Array.foldl_toList]
 congr 1
 simp only [Array.zipIdx,Array.toList_mapIdx];apply List.ext_getElem?;intro j;simp [List.getElem?_zipIdx]
theorem mO {α:Type} (C vs:List α) (h:C.length=vs.length):splice C 0 vs=vs:=by
 unfold splice;simp;omega
theorem gH (t:TypeId) (x:Operand) (d:o.op=.buildSlice t 1 #[(0,x)]) (e:TypeId) (i:TypeInfo) (z:Value) (size:Nat) (f:P.underlying t=some (.slice e)) (g:P.info? e=some i) (h:i.zero=some z) (j:i.size=size) (hp:0<size) (m:size<=16777216)
 (v:Value) (k:a.eval x=v) (b:v.cells.size=size)
 (l:K (a.put o.dst (.slice (some ⟨w.heap.size,0,none⟩) 1 1)) (w.alloc (.cells v.cells e))):o.wp P a w K Q:=by
 refine jT (v:=.slice (some ⟨w.heap.size,0,none⟩) 1 1) ?_ l;unfold execOp;have c:Instr.fill (fun i=>some (i*size,size)) ((Array.range (1*size)).map (z.cells[·% z.cells.size]!)) [(0,v)]=some v.cells:=by
  rw [gG (off:=0) (size:=size) Hb b Hb,mO _ _ (by simp [b])];simp [Instr.fill]
 simp only [Nat.one_mul] at c;simp [d,Instr.buildSlice,run_underlying f,sizeOf,typeInfo,zeroValue,g,h,j,k,show ¬ 16777216<size by omega,show ¬ size=0 by omega,c,newRow]
theorem jj (t ty e:TypeId) (i:TypeInfo) (z:Value) (size d:Nat) (T:P.underlying t=some (.slice e)) (U:P.info? e=some i) (hz:i.zero=some z)
 (f:i.size=size) (H:i.bytes=d) (an:z.cells.size=size) (a0:0<size)
 (v:Value) (n:Nat) (xs:List Value) (a:w.ownsRow 0 e size v n xs) (C:Addr) (m c:Nat) (b:List Value) (V:b.length=m*size) (h:∀ j u,b[j]?=some u->w.cell? (C.add j)=some u) (h1:∀ u∈b,u.oneCell'=true)
 (I:n+m<=maxLen) (o:(n+m)*d<=140737488355328) {v':Value}
 (W:(Builtin.append_ #[t,t] ty #[v,.slice (some C) m c]).run P w=.ok v' w'):w'.ownsRow 0 e size v n xs:=by
 rcases a.2 with ⟨rfl,rfl⟩ | ⟨g,k,K,rfl,X,Y,s,x,L,p⟩
 ·exact ⟨a.1,Or.inl ⟨rfl,rfl⟩⟩
 ·by_cases q:n+m<=k
  ·obtain ⟨w2,l,M,a1⟩:=run_append_fits (P:=P) w 0 t ty e i size T U f g n k xs a C m c b V h h1 q;rw [W] at l;injection l with e1 N
   subst N;rcases M.2 with ⟨O,_⟩ | ⟨g',Z,y,O,_,R,_,_,A,S⟩
   ·cases O
   ·injection O with B q2 q3
    injection B with B;injection B with B
    subst B;subst q3;refine ⟨a.1,Or.inr ⟨g,k,y,rfl,X,R,s,x,A,?_⟩⟩;have:=congrArg (List.take (n*size)) S;rw [List.take_take,Nat.add_mul,show min (n*size) (n*size+m*size)=n*size by omega,<- a.1,List.take_left] at this;rw [<- a.1];exact this
  ·have r:∀ j u,xs[j]?=some u->w.cell? ((⟨g,0,none⟩:Addr).add j)=some u:=a.cells (g:=g) rfl;subst f;subst H;have l:=run_append_grow (P:=P) w t ty e i z T U hz ⟨g,0,none⟩ n k xs a.1 r C m c b V h Ha (by simp only [maxLen] at I;omega) (growslice_fits Ha o);rw [W] at l;injection l with e1 N
   subst N;refine ⟨a.1,Or.inr ⟨g,k,K,rfl,X,?_,s,x,L,p⟩⟩;exact (Below.heap_alloc w.drew _ g (ah Y)).trans Y
theorem jk (s x:Operand) (t:TypeId) (V:o.op=.call { callee:=.builtin .append,args:=#[s,x],argTypes:=#[t,t] })
 (e:TypeId) (i:TypeInfo) (z:Value) (size d:Nat) (N:P.underlying t=some (.slice e)) (O:P.info? e=some i) (R:i.zero=some z)
 (p:i.size=size) (y:i.bytes=d) (A:z.cells.size=size) (B:0<size)
 (v:Value) (n:Nat) (C:List Value) (W:a.eval s=v) (Own:Nat->Prop) (f:aI w Own e size v n C)
 (I:Addr) (m c:Nat) (b:List Value) (X:a.eval x=.slice (some I) m c) (S:b.length=m*size) (q:∀ j u,b[j]?=some u->w.cell? (I.add j)=some u) (T:∀ u∈b,u.oneCell'=true)
 (H:n+m<=maxLen) (l:(n+m)*d<=140737488355328)
 (h:∀ L r,aI r (fun k=>Own k\/w.heap.size<=k) e size L (n+m) (C++b)->w.grownBy r v.ownBlock->aI r Own e size v n C->K (a.put o.dst L) r):o.wp P a w K Q:=by
 obtain ⟨L,r,U,Y,Z,h4,h5⟩:=run_append_own_at (P:=P) w 0 t o.type e i z size d N O R p y A B v n C f.1 I m c b S q T H l (Nat.zero_le _);unfold Oper.wp execOp;simp only [V,resolve,invoke,builtin,Sem.run_bind,Sem.run_pure,Result.andThen_ok,List.map_toArray,List.map_cons,List.map_nil,W,X,U];refine h L r ⟨Y,fun g M=>?_⟩ Z ⟨jj t o.type e i z size d N O R p y A B v n C f.1 I m c b S q T H l U,f.2⟩;rcases h5 with h5 | h5
 ·exact Or.inl (f.2 g (by rw [<- h5];exact M))
 ·rw [h5] at M;injection M with M;exact Or.inr Ha
end
end Go.Proofs.YtegjelaejbacnaaGreat
