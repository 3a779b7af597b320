/- For VolAll: contracts and facts, part 6. -/
import Derived.Test.YtamnpblijdgdaaaGreatV02
import Derived.Test.YtamnpblijdgdaaaGreatV03
namespace Go.Proofs.YtamnpblijdgdaaaGreat
open Go.ChangeShapes Go.WideShapes Go.ChangeAt Go.RowKit
set_option linter.unusedVariables false
theorem wpList_push_of {P:Program} {w:World} {ops:Array Oper} {rest:List Oper} {o:Oper} {a:Act} {Q:Exit→Act→World→Prop} (hgd:o.guard=none) (s x:Operand) (t:TypeId) (ho:o.op=.call { callee:=.builtin .append,args:=#[s,x],argTypes:=#[t,t] })
 (e:TypeId) (i:TypeInfo) (z:Value) (size bytes:Nat) (ht:P.underlying t=some (.slice e)) (hi:P.info? e=some i) (hz:i.zero=some z)
 (hsize:i.size=size) (hby:i.bytes=bytes) (hzs:z.cells.size=size) (hsz:0<size)
 (v:Value) (n:Nat) (xs:List Value) (hs:a.eval s=v) (Own:Nat→Prop) (hown:RowAt w Own e size v n xs)
 (ad:Addr) (m c:Nat) (news:List Value) (hx:a.eval x=.slice (some ad) m c) (hl:news.length=m*size) (hnews:∀ j u,news[j]?=some u→w.cell? (ad.add j)=some u) (h1:∀ u∈news,u.oneCell'=true)
 (h63:n+m≤maxLen) (hbytes:(n+m)*bytes≤140737488355328)
 (h:∀ v' w',RowAt w' (fun k=>Own k∨w.heap.size≤k) e size v' (n+m) (xs++news)→w.grownBy w' v.ownBlock→RowAt w' Own e size v n xs→wpList P ops Q rest (a.put o.dst v') w'):wpList P ops Q (o :: rest) a w :=
 wpList_plain hgd fun _ hK=>wp_push_of s x t ho e i z size bytes ht hi hz hsize hby hzs hsz v n xs hs Own hown ad m c news hx hl hnews h1 h63 hbytes fun v' w' h2 h3 h4=>hK _ _ (h v' w' h2 h3 h4)
theorem rowAt_new (w:World) (E:TypeId) (sz n:Nat) (C:Array Value) (hm:n≤maxLen) (hs:C.size=n*sz) (Own:Nat→Prop) (ho:Own w.heap.size):RowAt (w.alloc (.cells C E)) Own E sz (.slice (some ⟨w.heap.size,0,none⟩) n n) n C.toList :=
 ⟨World.ownsRow_lit w C n (Nat.zero_le _) hm hs,fun g hg=>by injection hg with hg;subst hg;exact ho⟩
end Go.Proofs.YtamnpblijdgdaaaGreat
namespace Go.Proofs.YtamnpblijdgdaaaGreat
open Go
set_option linter.unusedVariables false
set_option linter.unusedSimpArgs false
section
variable {P:Program} {ops:Array Oper} {T0 T:Array Value} {D:List Deferred} {V:Nat→Value→World→Prop} {J:World→Prop} {R:Nat→Value→Nat→Value→World→Prop} {S:World→World→Prop} {Q:Exit→Act→World→Prop}
end
end Go.Proofs.YtamnpblijdgdaaaGreat
