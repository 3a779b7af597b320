/- FileHoles answers true for every input, and leaves its arguments alone. No condition. -/
import Derived.Test.YtegjelaejbacnaaGreatRows
import Derived.WalkKit
import Derived.ProofKit
import Derived.OpenShut
import Derived.Test.YtegjelaejbacnaaGreatH29
set_option maxRecDepth 100000
set_option maxHeartbeats 25600000
set_option linter.unusedVariables false
open Go.ChangeShapes Go.WideShapes Go.ChangeAt Go.RowKit Go.Joins
namespace Go.Proofs.YtegjelaejbacnaaGreat.fileHoles
theorem own:ownKnob Tryz.prog.godebug=none:=Hc
theorem Jp:laidOutB Tryz.prog=true:=Hc
theorem ML (b:Int) (c:Int) (f:Option Addr) (a:List Int) (d:Nat) (w:World) (g:0<=b/\b<=65535) (h:0<=c/\c<=65535) (i:a.length<=d) (j:d<=9223372036854775807) (k:ay a) (l:dk w f a) :
 Calls Tryz.prog 10 #[.int .u16 b,.int .u16 c,.slice f a.length d] w fun e w'=>e=.returned (.bool true)/\Below w.heap.size w w':=by
 exact sO b c f a d w g h i j k l
theorem K2 (os:Os) (started:os.Started) (H:Type) (enc:TypeId × Value->H) :
 ReturnsInHanded {} Tryz.checked os 10 .any (Rows.fileHolesSpec.pre6 enc Tryz.prog Tryz.f10 Rows.fileHolesRow.domain false) (Rows.fileHolesSpec.post enc Tryz.prog Tryz.f10 false true false false):=by
 refine returnsInHanded_of_change (C:=Tryz.checked) own started Hc Tryz.func10
  (ChangeSpec.witness6 (enc:=enc) (C:=Tryz.checked) false ⟨#[],#[.int .u16 0,.int .u16 0,.slice none 0 0],[]⟩ 8 Hc Hc Hc Hc) ?_
 intro W i args ds gs r c K L _;have a:∀ (j:Nat) t v,Tryz.f10.params[j]?=some t->args[j]?=some v->Value.okWide Tryz.prog W .any i t v:=c;have f:=K;obtain ⟨p,q,k,X,rfl,Y,Z⟩:=K;have M:DataW.TrodAll enc Tryz.prog W 0 (fun _=>true) true Tryz.f10.params.toList args.toList ds p:=k;rw [Tryz.params10] at M a;obtain ⟨N,ad,d0,an,p0,q0,u,rfl,rfl,h0,r0⟩:=trodAll_cons M;obtain ⟨O,a0,d1,a1,p1,q1,rfl,rfl,rfl,h1,r1⟩:=trodAll_cons r0;obtain ⟨R,a3,d2,a4,S,q2,rfl,rfl,rfl,T,r2⟩:=trodAll_cons r1;obtain ⟨rfl,rfl,rfl⟩:=trodAll_nil r2;obtain rfl:args=#[N,O,R]:=by cases args;simp_all
 obtain ⟨rfl,rfl⟩:=trodVars_none X;obtain ⟨x0,rfl,rfl,rfl,l⟩:=open_int Tryz.underlying89 (a 0 89 N rfl rfl) h0;obtain ⟨x1,rfl,rfl,rfl,m⟩:=open_int Tryz.underlying89 (a 1 89 O rfl rfl) h1;obtain ⟨U,n,d,rfl⟩:=okWide_slice Tryz.underlying22 (a 2 22 R rfl rfl);clear k c;simp only [List.append_nil] at f;have o:∀ y∈S,y.block<W.heap.size:=fun y w=>by simpa using f.lt y (by simp [w])
 have g:∀ s:World,Below W.heap.size W s->DataW.Trod enc Tryz.prog s 0 (fun b=>decide (b<W.heap.size)) true 22 (.slice U n d) d2 S :=
  fun s hn=>Below.trod Jp Hc (of_decide_eq_true Hc) T hn (fun y w=>o y w)
 obtain ⟨a5,x⟩:=T;obtain ⟨A2,l2,c2,V,z,A,B,I⟩:=D4 x;simp [Value.cells] at V;obtain ⟨rfl,rfl,rfl⟩:=V;refine (ML x0 x1 U l2 d W (by have:=bounds_u16 l;omega) (by have:=bounds_u16 m;omega) z A I B).mono fun e s ⟨he,bel⟩=>?_;subst he;exact ⟨_,rfl,_,_,_,[],_,[],f,(trodAll_cons_mk (shut_bool Tryz.underlying4 _) trodAll_mk0),(trodAll_cons_mk (shut_int Tryz.underlying89 l) (trodAll_cons_mk (shut_int Tryz.underlying89 m) (trodAll_cons_mk (g _ bel) trodAll_mk0))),rfl,bel.frame _,fun h=>by cases h⟩
theorem MM:Rows.fileHolesRow.holds Tryz.pinned (OpenSpec.ofChange Rows.fileHolesSpec) :=
 OpenClaim.holds_of_wide 10 Tryz.f10 rfl rfl rfl rfl rfl rfl rfl ⟨rfl,rfl,rfl,rfl,rfl⟩ rfl rfl rfl rfl rfl Hc Tryz.func10 Hc
  (of_decide_eq_true Hc) (by unfold Func.isWrapper;first | (rw [if_pos (by decide +kernel)];kernel_rfl) | (rw [if_neg (by decide +kernel)];exact ⟨rfl,rfl⟩))
  (fun os started H a _=>K2 os started H a)
theorem proved:Rows.FileHolesSaid :=
 MM
#print axioms proved
end Go.Proofs.YtegjelaejbacnaaGreat.fileHoles
