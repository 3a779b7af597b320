/- FileLong answers true for every input, and leaves its arguments alone. No condition. -/
import Derived.Test.YtegjelaejbacnaaGreatRows
import Derived.WalkKit
import Derived.ProofKit
import Derived.OpenShut
import Derived.Test.YtegjelaejbacnaaGreatL29
set_option maxRecDepth 100000
set_option maxHeartbeats 25600000
set_option linter.unusedVariables false
open Go.ChangeShapes Go.WideShapes Go.ChangeAt Go.RowKit Go.Joins
namespace Go.Proofs.YtegjelaejbacnaaGreat.fileLong
theorem own:ownKnob Tryz.prog.godebug=none:=Hc
theorem MJ (a:Int) (b:Int) (w:World) (c:0<=a/\a<=65535) (d:0<=b/\b<=65535) :
 Calls Tryz.prog 12 #[.int .u16 a,.int .u16 b] w fun e w'=>e=.returned (.bool true)/\Below w.heap.size w w':=by
 exact tp a b w c d
theorem KX (os:Os) (started:os.Started) (H:Type) (enc:TypeId × Value->H) :
 ReturnsInHanded {} Tryz.checked os 12 .any (Rows.fileLongSpec.pre6 enc Tryz.prog Tryz.f12 Rows.fileLongRow.domain false) (Rows.fileLongSpec.post enc Tryz.prog Tryz.f12 false true false false):=by
 refine returnsInHanded_of_change (C:=Tryz.checked) own started Hc Tryz.func12
  (ChangeSpec.witness6 (enc:=enc) (C:=Tryz.checked) false ⟨#[],#[.int .u16 0,.int .u16 0],[]⟩ 8 Hc Hc Hc Hc) ?_
 intro W c args ds S k a m n _;have b:∀ (j:Nat) t v,Tryz.f12.params[j]?=some t->args[j]?=some v->Value.okWide Tryz.prog W .any c t v:=a;have d:=m;obtain ⟨p,q,f,u,rfl,w,x⟩:=m;have o:DataW.TrodAll enc Tryz.prog W 0 (fun _=>true) true Tryz.f12.params.toList args.toList ds p:=f;rw [Tryz.params12] at o b;obtain ⟨r,y,d0,z,T,U,l,rfl,rfl,A,B⟩:=trodAll_cons o;obtain ⟨s,I,V,K,X,Y,rfl,rfl,rfl,L,M⟩:=trodAll_cons B;obtain ⟨rfl,rfl,rfl⟩:=trodAll_nil M;obtain rfl:args=#[r,s]:=by cases args;simp_all
 obtain ⟨rfl,rfl⟩:=trodVars_none u;obtain ⟨N,rfl,rfl,rfl,g⟩:=open_int Tryz.underlying89 (b 0 89 r rfl rfl) A;obtain ⟨O,rfl,rfl,rfl,i⟩:=open_int Tryz.underlying89 (b 1 89 s rfl rfl) L;clear f a;simp only [List.append_nil] at d;refine (MJ N O W (by have:=bounds_u16 g;omega) (by have:=bounds_u16 i;omega)).mono fun e Z ⟨R,bel⟩=>?_;subst R;exact ⟨_,rfl,_,_,_,[],_,[],d,(trodAll_cons_mk (shut_bool Tryz.underlying4 _) trodAll_mk0),(trodAll_cons_mk (shut_int Tryz.underlying89 g) (trodAll_cons_mk (shut_int Tryz.underlying89 i) trodAll_mk0)),rfl,bel.frame _,fun h=>by cases h⟩
theorem MK:Rows.fileLongRow.holds Tryz.pinned (OpenSpec.ofChange Rows.fileLongSpec) :=
 OpenClaim.holds_of_wide 12 Tryz.f12 rfl rfl rfl rfl rfl rfl rfl ⟨rfl,rfl,rfl,rfl,rfl⟩ rfl rfl rfl rfl rfl Hc Tryz.func12 Hc
  (of_decide_eq_true Hc) (by unfold Func.isWrapper;first | (rw [if_pos (by decide +kernel)];kernel_rfl) | (rw [if_neg (by decide +kernel)];exact ⟨rfl,rfl⟩))
  (fun os started H a _=>KX os started H a)
theorem proved:Rows.FileLongSaid :=
 MK
#print axioms proved
end Go.Proofs.YtegjelaejbacnaaGreat.fileLong
