/- For VolAll: contracts and facts, part 39. -/
import Derived.Deep.DeepCutAuto
import Derived.Deep.CutBlock
import Derived.StillTailTactics
import Derived.Test.YtamnpblijdgdaaaGreatV37
import Derived.Test.YtamnpblijdgdaaaGreatV38
namespace Go.Proofs.YtamnpblijdgdaaaGreat
open Go.ChangeShapes Go.WideShapes Go.ChangeAt Go.RowKit
set_option linter.unusedVariables false
set_option maxRecDepth 100000
def zs3 (n g:Nat):List Int:=[((2+g+n:Nat):Int),3]
def dv3 (n g:Nat):DM:=DM.make (zs3 n g)
theorem may3 (n g:Nat) (hn:n≤40) (hg:g≤60):mayV (zs3 n g)=true:=by
 have h:badSize ((2+g+n:Nat):Int)=false:=by
  unfold badSize;simp only [Bool.or_eq_false_iff,decide_eq_false_iff_not];omega
 unfold mayV zs3
 rw [show ([((2+g+n:Nat):Int),3].any badSize)=false by rw [List.any_cons,List.any_cons,h];rfl];rfl
structure Op3 (n g:Nat):Prop where
 may:mayV (zs3 n g)=true
 ai:AllI (zs3 n g)
 yes0:(rowV (dv3 n g) ((0:Nat):Int) ((1+g+n:Nat):Int)).isSome=true
 now0:∃ row,(dv3 n g).now[0]?=some row∧2+g+n≤row.length
 no1:rowV (makeM (dv3 n g) ((0:Nat):Int) n g) 1 ((1+g+n:Nat):Int)=none
 mst:Mst (makeM (dv3 n g) ((0:Nat):Int) n g) n g 0
 dn0:(dv3 n g).done.length=0
theorem op3 {n g:Nat} (hn:n≤40) (hg:g≤60) (hg16:16≤g):Op3 n g:=by
 have hm:=may3 n g hn hg
 have hz0:(zs3 n g)[0]?=some ((2+g+n:Nat):Int):=rfl
 have hf:=make_fit (N:=2+g+n) hm hz0 (by omega)
 obtain ⟨i0,_,s0⟩:=new_idle hm hz0 (n:=n) (g:=g) (by omega) (by omega)
 have hd:=makeM_done (dv3 n g) ((0:Nat):Int) n g
 have hd0:(dv3 n g).done.length=0:=rfl
 refine ⟨hm,fun x hx=>?_,?_,⟨_,hf.row,hf.len⟩,?_,⟨⟨1,_,[],i0.mtb_now,by omega⟩,s0,by omega⟩,hd0⟩
 ·unfold zs3 at hx
  simp at hx
  rcases hx with rfl | rfl <;> constructor <;> omega
 ·obtain ⟨b,hb⟩:=hf.get (i:=1+g+n) (by omega)
  show (rowV (DM.make (zs3 n g)) _ _).isSome=true
  rw [hf.rV,hb];rfl
 ·unfold rowV
  rw [if_neg]
  have hdm:=(Off.make (r:=0) (k:=1) (by omega) (dv3 n g) n g).dims
  rw [hasB_dims hdm]
  intro hh
  unfold hasB at hh
  have h3:rowLen (dv3 n g).now (1:Int).toNat=3:=rfl
  rw [h3] at hh
  simp at hh
  omega
theorem RAt.str {W:World} {O:Nat→RRole} {hh:Nat} {L:Nat→Value} {G:Nat→RTab} {left:Int} (h:RAt W O hh L G left) {t:Nat} (ht:t=1∨t=3) {X:List (List (List Int))} (hX:G t=X.map (·.map strE)) {r:Nat} {row:List (List Int)} (hr:X[r]?=some row) :
 ∃ g cap A c,L t=.slice (some ⟨g,0,none⟩) X.length cap∧W.cell? ⟨g,r,none⟩=some (.slice A row.length c)∧∀ i b,row[i]?=some b→∃ a,A=some a∧W.cell? (a.add i)=some (.string (strOfNums b)):=by
 have ht4:t<4:=by omega
 obtain ⟨g,cap,u,e1,_,_,hc,_,hrow⟩:=h.row ht4 (r:=r) (row:=row.map strE) (by rw [hX,List.getElem?_map,hr];rfl)
 rw [hX,List.length_map] at e1
 have hrow2:RowAt W (fun k=>O k=.row t r) 9 1 u row.length (sv row):=by
  rw [← flat_str,show row.length=(row.map strE).length by simp]
  rcases ht with rfl | rfl <;> exact hrow
 obtain ⟨A,c,rfl,_,_⟩:=hrow2.val
 refine ⟨g,cap,A,c,e1,hc,fun i b hb=>?_⟩
 have hlt:=(List.getElem?_eq_some_iff.1 hb).1
 obtain ⟨g2,c2,e2,_,_,_,_,_,_⟩:=hrow2.pos (by omega)
 injection e2 with e2 _ e3
 subst e2;subst e3
 refine ⟨_,rfl,?_⟩
 rw [add_at]
 exact hrow2.one (by unfold sv;rw [List.getElem?_map,hb];rfl)
structure TrR (W:World) (hd g3 R c3:Nat) (A:Option Addr) (c:Nat) (tr:List (List Int)):Prop where
 tab:W.cell? ⟨hd,3,none⟩=some (.slice (some ⟨g3,0,none⟩) R c3)
 row:W.cell? ⟨g3,0,none⟩=some (.slice A tr.length c)
 str:∀ i b,tr[i]?=some b→∃ a,A=some a∧W.cell? (a.add i)=some (.string (strOfNums b))
theorem TrR.below {W W':World} {hd g3 R c3:Nat} {A:Option Addr} {c:Nat} {tr:List (List Int)} (h:TrR W hd g3 R c3 A c tr) (hb:Below W.heap.size W W'):TrR W' hd g3 R c3 A c tr :=
 ⟨keepC hb h.tab,keepC hb h.row,fun i b hi=>by obtain ⟨a,e,h4⟩:=h.str i b hi;exact ⟨a,e,keepC hb h4⟩⟩
theorem TD.trR {w0 W:World} {P:Nat→Prop} {q hd:Nat} {m m2:DM} (h:TD w0 W P q m hd m2):∃ g3 R c3 A c,0<R∧R≤8∧TrR W hd g3 R c3 A c (traceL m2 0):=by
 obtain ⟨F,FR,_,⟨O,L,hat,_,_⟩,_,_⟩:=h.ex
 have hpos:=h.ok.pos
 have hfew:=h.ok.few
 have hX3:(refOf m2).G 3=((List.range m2.now.length).map (traceL m2)).map (·.map strE):=rfl
 obtain ⟨g3,c3,A,c,hL3,h2,h3⟩:=hat.str (Or.inr rfl) hX3 (range_map_at (traceL m2) hpos)
 rw [List.length_map,List.length_range] at hL3
 exact ⟨g3,_,c3,A,c,hpos,hfew,⟨by rw [← hL3];exact hat.cell 3 (by omega),h2,h3⟩⟩
theorem TD.traceP {w0 W:World} {P:Nat→Prop} {q hd:Nat} {m m2:DM} (h:TD w0 W P q m hd m2) (hmax:m.done.length<1000000) :
 Calls Tryz.prog 27 #[.pointer (some ⟨q,0,none⟩),.int .i64 0] W fun e w'=>(∃ v,e=.returned v∧TxtOwn w' W.heap.size v (traceL m 0))∧Below W.heap.size W w':=by
 obtain ⟨FR,hds,_,_⟩:=h.prog
 exact hds.trace 0 hds.ok.pos hmax
end Go.Proofs.YtamnpblijdgdaaaGreat
