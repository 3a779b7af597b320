/- For VolAll: contracts and facts, part 10. -/
import Derived.Test.YtamnpblijdgdaaaGreatV08
import Derived.Test.YtamnpblijdgdaaaGreatV09
namespace Go.Proofs.YtamnpblijdgdaaaGreat
open Go.ChangeShapes Go.WideShapes Go.ChangeAt Go.RowKit
set_option linter.unusedVariables false
theorem set_self {α:Type} {l:List α} {r:Nat} {x:α} (h:l[r]?=some x):l.set r x=l:=by
 apply List.ext_getElem?
 intro k
 rw [List.getElem?_set]
 by_cases e:r=k
 ·subst e
  rw [if_pos rfl,if_pos (List.getElem?_eq_some_iff.1 h).1,h]
 ·rw [if_neg e]
def setlRow (bs:List Int) (wt:List (Nat × List Int)):Nat→List (List Int)→List (List Int)
 | 0,s=>s
 | i+1,s=>if bitAt bs i then (match wt[i]? with | some p=>(setlRow bs wt i s).set p.1 p.2 | none=>setlRow bs wt i s) else setlRow bs wt i s
theorem setlRow_len (bs:List Int) (wt:List (Nat × List Int)) (s:List (List Int)):∀ i,(setlRow bs wt i s).length=s.length
 | 0=>rfl
 | i+1=>by
   unfold setlRow
   have:=setlRow_len bs wt s i
   split
   ·split <;> simp [this]
   ·exact this
theorem setlRow_mem (bs:List Int) (wt:List (Nat × List Int)) (s:List (List Int)) (P:List Int→Prop) (hs:∀ b∈s,P b) (hw:∀ p∈wt,P p.2):∀ i,∀ b∈setlRow bs wt i s,P b
 | 0=>hs
 | i+1=>by
   have ih:=setlRow_mem bs wt s P hs hw i
   unfold setlRow
   split
   ·split
    ·rename_i p hp
     intro b hb
     rcases List.mem_or_eq_of_mem_set hb with h | h
     ·exact ih b h
     ·subst h;exact hw p (List.mem_of_getElem? hp)
    ·exact ih
   ·exact ih
def RM.setl (m:RM) (r:Nat) (bs:List Int) (i:Nat):RM:={ m with sure:=m.sure.set r (setlRow bs (m.wait.getD r []) i (m.sure.getD r [])) }
def RM.crash1 (m:RM) (r:Nat) (bs:List Int):RM :=
 { m with sure:=m.sure.set r (setlRow bs (m.wait.getD r []) (m.wait.getD r []).length (m.sure.getD r [])),seen:=m.seen.set r (setlRow bs (m.wait.getD r []) (m.wait.getD r []).length (m.sure.getD r [])),wait:=m.wait.set r [] }
def RM.crashN (m:RM) (ks:List (List Int)):Nat→RM
 | 0=>m
 | k+1=>(RM.crashN m ks k).crash1 k (ks.getD k [])
def RM.crash (m:RM) (ks:List (List Int)):RM:={ RM.crashN m ks m.seen.length with left := -1 }
theorem RM.crash1_len (m:RM) (r:Nat) (bs:List Int):(m.crash1 r bs).seen.length=m.seen.length∧(m.crash1 r bs).left=m.left:=by
 unfold RM.crash1;exact ⟨by simp,rfl⟩
theorem RM.crashN_len (m:RM) (ks:List (List Int)):∀ k,(m.crashN ks k).seen.length=m.seen.length∧(m.crashN ks k).left=m.left
 | 0=>⟨rfl,rfl⟩
 | k+1=>by
   have:=RM.crashN_len m ks k
   have h1:=RM.crash1_len (m.crashN ks k) k (ks.getD k [])
   exact ⟨h1.1.trans this.1,h1.2.trans this.2⟩
theorem RM.Ok.crash1 {m:RM} (h:m.Ok) {r:Nat} (hr:r<m.seen.length) (bs:List Int):(m.crash1 r bs).Ok:=by
 obtain ⟨srow,hsr⟩:∃ x,m.sure[r]?=some x:=⟨_,List.getElem?_eq_getElem (by rw [h.sureLen];exact hr)⟩
 obtain ⟨wrow,hwr⟩:∃ x,m.wait[r]?=some x:=⟨_,List.getElem?_eq_getElem (by rw [h.waitLen];exact hr)⟩
 have g1:m.sure.getD r []=srow:=by rw [List.getD,hsr];rfl
 have g2:m.wait.getD r []=wrow:=by rw [List.getD,hwr];rfl
 obtain ⟨⟨nrow,hn,hl⟩,hb⟩:=h.sures r srow hsr
 have hw:=h.waits r wrow hwr
 have hS:(setlRow bs wrow wrow.length srow).length=nrow.length:=(setlRow_len _ _ _ _).trans hl
 have hB:∀ b∈setlRow bs wrow wrow.length srow,BlkOk b:=setlRow_mem bs wrow srow BlkOk hb (fun p hp=>(hw p hp).2) _
 have lens:∀ (k:Nat) (row:List (List Int)),m.seen[k]?=some row→∃ row',(m.seen.set r (setlRow bs wrow wrow.length srow))[k]?=some row'∧row'.length=row.length:=fun k row hk=>by
  rw [List.getElem?_set]
  by_cases e:r=k
  ·subst e
   rw [if_pos rfl,if_pos hr]
   rw [hn] at hk;injection hk with hk;subst hk
   exact ⟨_,rfl,hS⟩
  ·rw [if_neg e];exact ⟨row,hk,rfl⟩
 unfold RM.crash1
 rw [g1,g2]
 generalize setlRow bs wrow wrow.length srow=S at *
 exact
 { pos:=by show 0<(m.seen.set r S).length;rw [List.length_set];exact h.pos
   few:=by show (m.seen.set r S).length≤8;rw [List.length_set];exact h.few
   sureLen:=by show (m.sure.set r S).length=(m.seen.set r S).length;rw [List.length_set,List.length_set];exact h.sureLen
   waitLen:=by show (m.wait.set r []).length=(m.seen.set r S).length;rw [List.length_set,List.length_set];exact h.waitLen
   trLen:=by show _=(m.seen.set r S).length;rw [List.length_set];exact h.trLen
   rows:=fun k row hk=>by
    have hk':(m.seen.set r S)[k]?=some row:=hk
    rw [List.getElem?_set] at hk'
    by_cases e:r=k
    ·subst e
     rw [if_pos rfl,if_pos hr] at hk'
     injection hk' with hk';subst hk'
     have:=h.rows r nrow hn
     exact ⟨by rw [hS];exact this.1,by rw [hS];exact this.2.1,hB⟩
    ·rw [if_neg e] at hk'
     exact h.rows k row hk'
   sures:=fun k row hk=>by
    have hk':(m.sure.set r S)[k]?=some row:=hk
    rw [List.getElem?_set] at hk'
    by_cases e:r=k
    ·subst e
     rw [if_pos rfl,if_pos (by rw [h.sureLen];exact hr)] at hk'
     injection hk' with hk';subst hk'
     exact ⟨⟨_,by show (m.seen.set r _)[r]?=_;rw [List.getElem?_set_self hr],rfl⟩,hB⟩
    ·rw [if_neg e] at hk'
     obtain ⟨⟨row',h1,h2⟩,h3⟩:=h.sures k row hk'
     obtain ⟨row2,h4,h5⟩:=lens k row' h1
     exact ⟨⟨row2,h4,by omega⟩,h3⟩
   waits:=fun k row hk=>by
    have hk':(m.wait.set r [])[k]?=some row:=hk
    rw [List.getElem?_set] at hk'
    by_cases e:r=k
    ·subst e
     rw [if_pos rfl,if_pos (by rw [h.waitLen];exact hr)] at hk'
     injection hk' with hk';subst hk'
     intro p hp;cases hp
    ·rw [if_neg e] at hk'
     intro p hp
     obtain ⟨⟨row',h1,h2⟩,h3⟩:=h.waits k row hk' p hp
     obtain ⟨row2,h4,h5⟩:=lens k row' h1
     exact ⟨⟨row2,h4,by omega⟩,h3⟩
   left:=h.left }
theorem RM.crashN_ok {m:RM} (h:m.Ok) (ks:List (List Int)):∀ k,k≤m.seen.length→(m.crashN ks k).Ok
 | 0,_=>h
 | k+1,hk=>(RM.crashN_ok h ks k (by omega)).crash1 (by rw [(RM.crashN_len m ks k).1];omega) _
theorem RM.setl_zero {m:RM} {r:Nat} {bs:List Int} {srow:List (List Int)} (hs:m.sure[r]?=some srow):m.setl r bs 0=m:=by
 unfold RM.setl setlRow
 have:m.sure.getD r []=srow:=by rw [List.getD,hs];rfl
 rw [this,set_self hs]
theorem RM.setl_at {m:RM} {r:Nat} (bs:List Int) (i:Nat) {srow:List (List Int)} {wrow:List (Nat × List Int)} (hs:m.sure[r]?=some srow) (hw:m.wait[r]?=some wrow):(m.setl r bs i).sure[r]?=some (setlRow bs wrow i srow):=by
 have e1:m.sure.getD r []=srow:=by rw [List.getD,hs];rfl
 have e2:m.wait.getD r []=wrow:=by rw [List.getD,hw];rfl
 unfold RM.setl
 rw [e1,e2]
 exact List.getElem?_set_self (List.getElem?_eq_some_iff.1 hs).1
theorem RM.setl_step {m:RM} {r:Nat} (bs:List Int) (i:Nat) {srow:List (List Int)} {wrow:List (Nat × List Int)} {p:Nat × List Int} (hs:m.sure[r]?=some srow) (hw:m.wait[r]?=some wrow) (hp:wrow[i]?=some p) :
 m.setl r bs (i+1)=if bitAt bs i then { m.setl r bs i with sure:=(m.setl r bs i).sure.set r ((setlRow bs wrow i srow).set p.1 p.2) } else m.setl r bs i:=by
 have e1:m.sure.getD r []=srow:=by rw [List.getD,hs];rfl
 have e2:m.wait.getD r []=wrow:=by rw [List.getD,hw];rfl
 by_cases hb:bitAt bs i=true
 ·rw [if_pos hb]
  unfold RM.setl
  rw [e1,e2]
  have:setlRow bs wrow (i+1) srow=(setlRow bs wrow i srow).set p.1 p.2:=by
   rw [setlRow,if_pos hb,hp]
  rw [this]
  simp only [List.set_set]
 ·rw [if_neg hb]
  unfold RM.setl
  rw [e1,e2]
  have:setlRow bs wrow (i+1) srow=setlRow bs wrow i srow:=by rw [setlRow,if_neg hb]
  rw [this]
theorem RM.setl_len0 (m:RM) (r:Nat) (bs:List Int) (i:Nat):((m.setl r bs i).G 0).length=m.sure.length:=by unfold RM.G RM.setl;simp
theorem RM.crashN_wait (m:RM) (ks:List (List Int)):∀ n r,n≤r→(m.crashN ks n).wait[r]?=m.wait[r]?
 | 0,_,_=>rfl
 | n+1,r,h=>by
   have ih:=RM.crashN_wait m ks n r (by omega)
   show ((m.crashN ks n).wait.set n [])[r]?=_
   rw [List.getElem?_set_ne (by omega)];exact ih
theorem pen_at:∀ (l:List (Nat × List Int)) (j:Nat) (p:Nat × List Int),l[j]?=some p→(l.map penE).flatten[j*2]?=some (.int .i64 (p.1:Int))∧(l.map penE).flatten[j*2+1]?=some (.string (strOfNums p.2))
 | [],j,p,h=>by cases h
 | q :: l,0,p,h=>by
   injection h with h;subst h
   exact ⟨rfl,rfl⟩
 | q :: l,j+1,p,h=>by
   have ih:=pen_at l j p (by simpa using h)
   rw [List.map_cons,List.flatten_cons]
   refine ⟨?_,?_⟩
   ·rw [List.getElem?_append_right (by show 2≤_;omega)]
    rw [show (j+1)*2-(penE q).length=j*2 from by show (j+1)*2-2=_;omega];exact ih.1
   ·rw [List.getElem?_append_right (by show 2≤_;omega)]
    rw [show (j+1)*2+1-(penE q).length=j*2+1 from by show (j+1)*2+1-2=_;omega];exact ih.2
theorem i64_div8 (k:Nat) (hk:k≤1000000):IntKind.i64.wrap ((k:Int).tdiv 8)=((k/8:Nat):Int):=by
 rw [show (k:Int).tdiv 8=((k/8:Nat):Int) from by rw [Int.ofNat_tdiv];rfl];exact IntWalk.i64_in _ (by omega)
def VC11 (hp k g0 g1 g2 B R c0 c1 c2 n:Nat) (u0:Value) (xs:List Value) (i:Nat) (v:Value) (w:World):Prop :=
 match i with
 | 0 | 1 | 5 | 6 | 11 | 12 | 13=>v=.pointer (some ⟨hp,0,none⟩)
 | 2=>v=.pointer (some ⟨hp,1,none⟩)
 | 3=>v=.slice (some ⟨g1,0,none⟩) R c1
 | 4 | 9 | 15=>v=.int .i64 k
 | 7=>v=.pointer (some ⟨hp,2,none⟩)
 | 8=>v=.slice (some ⟨g2,0,none⟩) R c2
 | 14=>v=.slice (some ⟨g0,0,none⟩) R c0
 | 16=>v=.pointer (some ⟨g0,k,none⟩)
 | 17=>v=u0
 | 19=>v=.pointer (some ⟨g1,k,none⟩)
 | 21=>v=.pointer (some ⟨g2,k,none⟩)
 | 10=>∃ q,v=.slice (some ⟨q,0,none⟩) 0 0∧B≤q∧w.heap[q]?=some (.cells #[] 9 (0,0))
 | 18=>RowAt w (fun q=>B≤q) 9 1 v n xs∧∃ A c,v=.slice A n c
 | _=>True
def JC11 (B g1 k n:Nat) (xs:List Value) (w6:World) (Ls:Nat→Bool) (w:World):Prop :=
 (Ls 20=false∧Below B w6 w)∨(Ls 20=true∧(Ls 3=true∧Ls 8=true∧Ls 10=true∧Ls 14=true∧Ls 17=true∧Ls 18=true)∧∃ W3 v,Below B w6 W3∧RowAt W3 (fun q=>B≤q) 9 1 v n xs∧(∃ A c,v=.slice A n c)∧w=W3.setCell ⟨g1,k,none⟩ v)
def SC11 (g1 i:Nat) (w w':World):Prop:=if i=20 then Touch (fun q=>q=g1) w w' else w.grownBy w' none
theorem SC11.refl (g1:Nat) (w:World) {i:Nat} (hi:i≠20):SC11 g1 i w w:=by unfold SC11;rw [if_neg hi];exact World.grownBy.refl w _
theorem SC11.grown {g1 i:Nat} {w w':World} (hi:i≠20) (h:w.grownBy w' none):SC11 g1 i w w':=by unfold SC11;rw [if_neg hi];exact h
theorem SC11.set {g1 k:Nat} {w:World} (v:Value):SC11 g1 20 w (w.setCell ⟨g1,k,none⟩ v):=by
 unfold SC11;rw [if_pos rfl];exact (Touch.refl (fun q=>q=g1) w).setCell (p:=⟨g1,k,none⟩) rfl v
theorem JC11.fresh {B g1 k n:Nat} {xs:List Value} {w6:World} {Ls:Nat→Bool} {w:World} (h:JC11 B g1 k n xs w6 Ls w) (i:Nat) (hi:i=3∨i=8∨i=10∨i=14∨i=17∨i=18∨i=20) (hn:Ls i=false):Below B w6 w:=by
 rcases h with h | ⟨h20,⟨h1,h2,h3,h4,h5,h6⟩,_⟩
 ·exact h.2
 ·rcases hi with rfl | rfl | rfl | rfl | rfl | rfl | rfl <;> simp_all
theorem JC11.add {B g1 k n:Nat} {xs:List Value} {w6:World} {Ls:Nat→Bool} {w:World} (h:JC11 B g1 k n xs w6 Ls w) {i:Nat} (hi:i≠20):JC11 B g1 k n xs w6 (fun j=>if i=j then true else Ls j) w:=by
 rcases h with h | ⟨h20,⟨h1,h2,h3,h4,h5,h6⟩,h7⟩
 ·exact Or.inl ⟨by simp [hi,h.1],h.2⟩
 ·refine Or.inr ⟨by simp [h20],⟨?_,?_,?_,?_,?_,?_⟩,h7⟩ <;> simp_all
theorem JC11.grow {B g1 k n:Nat} {xs:List Value} {w6:World} {Ls:Nat→Bool} {w w':World} (h:JC11 B g1 k n xs w6 Ls w) {i:Nat} (hi:i=10∨i=18) (hn:Ls i=false) (hb:Below B w6 w'):JC11 B g1 k n xs w6 (fun j=>if i=j then true else Ls j) w':=by
 rcases h with h | ⟨h20,⟨h1,h2,h3,h4,h5,h6⟩,_⟩
 ·refine Or.inl ⟨?_,hb⟩
  have:i≠20:=by omega
  simp [this,h.1]
 ·rcases hi with rfl | rfl <;> simp_all
theorem or_if (Ls:Nat→Bool) (i:Nat):(fun j=>decide (i=j)||Ls j)=fun j=>if i=j then true else Ls j:=funext fun j=>by by_cases h:i=j <;> simp [h]
theorem JC11.add' {B g1 k n:Nat} {xs:List Value} {w6:World} {Ls:Nat→Bool} {w:World} (h:JC11 B g1 k n xs w6 Ls w) (i:Nat) (hi:i≠20):JC11 B g1 k n xs w6 (fun j=>decide (i=j)||Ls j) w:=by rw [or_if];exact h.add hi
theorem JC11.grow' {B g1 k n:Nat} {xs:List Value} {w6:World} {Ls:Nat→Bool} {w w':World} (h:JC11 B g1 k n xs w6 Ls w) (i:Nat) (hi:i=10∨i=18) (hn:Ls i=false) (hb:Below B w6 w'):JC11 B g1 k n xs w6 (fun j=>decide (i=j)||Ls j) w':=by rw [or_if];exact h.grow hi hn hb
theorem JC11.done {B g1 k n:Nat} {xs:List Value} {w6:World} {Ls:Nat→Bool} {w:World} (h:JC11 B g1 k n xs w6 Ls w) (h20:Ls 20=true):∃ W3 v,Below B w6 W3∧RowAt W3 (fun q=>B≤q) 9 1 v n xs∧(∃ A c,v=.slice A n c)∧w=W3.setCell ⟨g1,k,none⟩ v:=by
 rcases h with h | h
 ·rw [h.1] at h20;cases h20
 ·exact h.2.2
theorem VC11.on {hp k g0 g1 g2 B R c0 c1 c2 n:Nat} {u0:Value} {xs:List Value} {i j:Nat} {v:Value} {w w':World} (hg:g1<B) (h:VC11 hp k g0 g1 g2 B R c0 c1 c2 n u0 xs j v w) (hs:SC11 g1 i w w'):VC11 hp k g0 g1 g2 B R c0 c1 c2 n u0 xs j v w':=by
 have hkeep:∀ q,B≤q→q<w.heap.size→w'.heap[q]?=w.heap[q]?:=fun q hq hl=>by
  unfold SC11 at hs
  split at hs
  ·exact hs.block q hl (by show ¬ q=g1;omega)
  ·exact hs.block q hl (by simp)
 unfold VC11 at *
 split <;> try exact h
 ·obtain ⟨q,e,hq,hc⟩:=h
  exact ⟨q,e,hq,by rw [hkeep q hq (room_lt hc)];exact hc⟩
 ·exact ⟨h.1.keep fun q hl ho=>hkeep q ho hl,h.2⟩
 ·trivial
theorem wp_app_run {P:Program} {o:Oper} {a:Act} {w:World} {K:Act→World→Prop} {Q:Exit→Act→World→Prop} (s x:Operand) (t1 t2:TypeId)
 (hop:o.op=Op.call { callee:=Callee.builtin Builtin.append,args:=#[s,x],argTypes:=#[t1,t2] }) (v y v':Value) (w':World) (hs:a.eval s=v) (hx:a.eval x=y)
 (hrun:(Builtin.append_ #[t1,t2] o.type #[v,y]).run P w=.ok v' w') (hK:K (a.put o.dst v') w'):o.wp P a w K Q:=by
 unfold Oper.wp
 simp only [execOp,hop,resolve,invoke,builtin,Sem.run_bind,Sem.run_pure,Result.andThen_ok,List.map_toArray,List.map_cons,List.map_nil,hs,hx,hrun]
 exact hK
section
variable {w:World} {O:Nat→RRole} {hp:Nat} {L:Nat→Value} {m:RM}
theorem RAt.rowL {G:Nat→RTab} {left:Int} (h:RAt w O hp L G left) {t r:Nat} (ht:t<4) {row:List (List Value)} (hr:(G t)[r]?=some row) {g n cap:Nat} (hL:L t=.slice (some ⟨g,0,none⟩) n cap) :
 ∃ u,O g=.tab t∧g<w.heap.size∧w.cell? ⟨g,r,none⟩=some u∧w.frozen? ⟨g,r,none⟩=false∧RowAt w (fun k=>O k=.row t r) (rER t) (rSz t) u row.length row.flatten:=by
 obtain ⟨g',cap',u,e1,h1,h2,h3,h4,h5⟩:=h.row ht hr
 rw [hL] at e1;injection e1 with e1;injection e1 with e1;injection e1 with e1;subst e1
 exact ⟨u,h1,h2,h3,h4,h5⟩
set_option maxRecDepth 100000 in
set_option maxHeartbeats 6400000 in
theorem rcrash_any (h:RAt w O hp L m.G m.left) (hO:∀ k,O k≠.none→k<w.heap.size) (hok:m.Ok) (A:Option Addr) (ks:List (List Int)) (c:Nat) (hks:TxtsF w (fun k=>O k≠.none) A ks) (hkl:ks.length≤1000000) (hwl:∀ (r:Nat) (row:List (Nat × List Int)),m.wait[r]?=some row→row.length≤1000000) :
 Calls Tryz.prog 20 #[.pointer (some ⟨hp,0,none⟩),.slice A ks.length c] w fun e w'=>e=.returned (.tuple #[])∧∃ O',RAt w' O' hp L (m.crash ks).G (m.crash ks).left∧(∀ k,O' k≠.none→k<w'.heap.size)∧(∀ k,O' k≠.none→O k≠.none∨w.heap.size≤k)∧Touch (fun k=>O k≠.none) w w':=by
 have few:=hok.few
 obtain ⟨srow0,hsr0⟩:∃ x,m.seen[0]?=some x:=⟨_,List.getElem?_eq_getElem hok.pos⟩
 obtain ⟨g1,cap1,_,hL1,_,_,_,_,_⟩:=h.row (t:=1) (by omega) (G1_at hsr0)
 rw [G1_len] at hL1
 have HL1:=Lib.hid hL1
 have c1:=h.cell 1 (by omega)
 rw [hL1] at c1
 have HH:=Lib.hid h
 have HO:=Lib.hid hO
 have HKS:=Lib.hid hks
 have HOK:=Lib.hid hok
 have HWL:=Lib.hid hwl
 clear h hO hks hok hL1 hsr0 hwl
 generalize hR:m.seen.length=R at *
 generalize hKL:ks.length=kl at *
 have HR:=Lib.hid hR
 have HKL:=Lib.hid hKL
 clear hR hKL
 go_enter Tryz.func20,Tryz.ntmps20
 go_wp2_with fail
 clear c1
 go_loopw [4] (fun i wr=>∃ k:Nat,i=.int .i64 k∧k≤R∧∃ O1,(RAt wr O1 hp L (m.crashN ks k).G m.left∧(∀ q,O1 q≠.none→q<wr.heap.size)∧(∀ q,O1 q≠.none→O q≠.none∨w.heap.size≤q))∧Touch (fun k=>O k≠.none) w wr) (fun i _=>R-(intOf i).toNat)
 case atStart=>exact ⟨0,rfl,Nat.zero_le _,O,⟨HH.out,HO.out,fun q hq=>Or.inl hq⟩,Touch.refl _ _⟩
 case round =>
  obtain ⟨k,rfl,hk,O1,hd,ht⟩:=hrel
  obtain ⟨w5,rfl⟩:∃ w5,w5=wr:=⟨wr,rfl⟩
  have hc1:=hd.1.cell 1 (by omega)
  rw [HL1.out] at hc1
  have HD:=Lib.hid hd
  have HT:=Lib.hid ht
  clear hd ht
  by_cases hlt:k<R
  ·go_upto_if 19 with fail
   go_cut [4,5] (fun s4 s5 wx=>∃ (A':Option Addr) (c':Nat) (text:List Int),s4=.int .i64 k∧s5=.slice A' text.length c'∧Hid (text=ks.getD k [])∧wx=w5∧Hid (AllB text∧text.length≤9223372036854775807∧∀ W,Touch (fun k=>O k≠.none) w W→Byt W A' text))
   case first =>
    by_cases hkl2:k<kl
    ·obtain ⟨bs,hbs⟩:∃ bs,ks[k]?=some bs:=⟨_,List.getElem?_eq_getElem (by rw [HKL.out];exact hkl2)⟩
     obtain ⟨a,A',c',rfl,h1,h3,h4,h5⟩:=HKS.out k bs hbs
     have hcell:w5.cell? (a.add k)=some (.slice A' bs.length c'):=(h1 w5 HT.out).1
     have HM:=Lib.hid (And.intro h3 (And.intro (show bs.length≤9223372036854775807 by omega) (fun W hW=>(h1 W hW).2)))
     have hkk:(k:Int)<kl:=by omega
     have HGB:Hid (bs=ks.getD k []):=by show _=_;rw [List.getD,hbs];rfl
     clear h1 h3 hbs
     go_wp2
     rename_i hJc hKc
     first | refine hJc _ _ ?_ | refine hKc _ _ ?_
     repeat apply Exists.intro
     exact ⟨⟨A',c',bs,rfl,rfl,HGB,rfl,HM⟩,rfl⟩
    ·have hgd:ks.getD k []=[]:=by rw [List.getD,List.getElem?_eq_none (by rw [HKL.out];omega)];rfl
     have HGD:=Lib.hid hgd
     clear hgd
     have hkk:¬ (k:Int)<kl:=by omega
     go_wp2
     rename_i hJc hKc
     first | refine hJc _ _ ?_ | refine hKc _ _ ?_
     repeat apply Exists.intro
     exact ⟨⟨none,0,[],rfl,rfl,HGD.out.symm,rfl,Lib.hid ⟨(fun x hx=>by cases hx),by simp,fun W hW i x hx=>by cases hx⟩⟩,rfl⟩
   case rest =>
    obtain ⟨A',c',text,rfl,rfl,HTX,hwx,HM⟩:=hcut
    have hwx:=hwx.symm
    subst hwx
    obtain ⟨mk,hmk⟩:∃ x,x=m.crashN ks k:=⟨_,rfl⟩
    have hok:=RM.crashN_ok HOK.out ks k (by rw [HR.out];omega)
    have hln:=(RM.crashN_len m ks k).1
    rw [← hmk] at hok hln
    rw [HR.out] at hln
    rw [← hmk] at HD
    have HMK:=Lib.hid hmk
    clear hmk
    obtain ⟨wrow,hwr⟩:∃ x,mk.wait[k]?=some x:=⟨_,List.getElem?_eq_getElem (by rw [hok.waitLen,hln];exact hlt)⟩
    obtain ⟨srow,hsr⟩:∃ x,mk.sure[k]?=some x:=⟨_,List.getElem?_eq_getElem (by rw [hok.sureLen,hln];exact hlt)⟩
    obtain ⟨⟨nrow,hnr,hsl⟩,_⟩:=hok.sures k srow hsr
    have hspos:0<srow.length:=by rw [hsl];exact (hok.rows k nrow hnr).2.1
    have hsle:srow.length≤1000:=by rw [hsl];exact (hok.rows k nrow hnr).1
    have hwt:∀ p∈wrow,p.1<srow.length:=fun p hp=>by
     obtain ⟨⟨row',h1,h2⟩,_⟩:=hok.waits k wrow hwr p hp
     rw [hnr] at h1;injection h1 with h1;subst h1;omega
    have hwl:wrow.length≤1000000:=HWL.out k wrow (by rw [← RM.crashN_wait m ks k k (Nat.le_refl _),← HMK.out];exact hwr)
    obtain ⟨g0,cap0,u0,hL0,ho0,hg0,hcu0,_,hru0⟩:=HD.out.1.row (t:=0) (by omega) (G0_at hsr)
    obtain ⟨g2,cap2,u2,hL2,ho2,hg2,hcu2,_,hru2⟩:=HD.out.1.row (t:=2) (by omega) (G2_at hwr)
    have hL0':=hL0
    have hL2':=hL2
    rw [G0_len hok,hln] at hL0'
    rw [G2_len hok,hln] at hL2'
    rw [List.length_map] at hru2
    obtain ⟨W,hW⟩:∃ n,n=wrow.length:=⟨_,rfl⟩
    rw [← hW] at hru2 hwl
    have HW:=Lib.hid hW
    obtain ⟨A2,c2,rfl,_,_⟩:=hru2.val
    have HRU2:=Lib.hid hru2
    have HL0:=Lib.hid hL0
    have HL0':=Lib.hid hL0'
    have HL2':=Lib.hid hL2'
    have HO0:=Lib.hid ho0
    have HO2:=Lib.hid ho2
    have HCU2:=Lib.hid hcu2
    have HOKk:=Lib.hid hok
    have HSR:=Lib.hid hsr
    have HWR:=Lib.hid hwr
    have HWT:=Lib.hid hwt
    have HLN:=Lib.hid hln
    obtain ⟨tl,htl⟩:∃ n,n=text.length:=⟨_,rfl⟩
    rw [← htl]
    have HTL:=Lib.hid htl
    obtain ⟨sl,hsl2⟩:∃ n,n=srow.length:=⟨_,rfl⟩
    rw [← hsl2] at hsle hspos
    have HSL:=Lib.hid hsl2
    clear hW hru2 hL0 hL0' hL2 hL2' ho0 ho2 hcu2 hok hsr hwr hwt hln htl hru0 hcu0 hg0 hg2 hnr hsl hsl2
    have d2:=HD.out.1.cell 2 (by omega)
    rw [HL2'.out] at d2
    have e2:=HCU2.out
    have hkR:(k:Int)<R:=by omega
    go_wp2_with fail
    clear d2 e2
    go_loopw [6] (fun i wr=>∃ j:Nat,i=.int .i64 j∧j≤W∧RAt wr O1 hp L (mk.setl k text j).G m.left∧Touch (fun q=>O1 q=.row 0 k) w5 wr) (fun i _=>W-(intOf i).toNat)
    case atStart=>exact ⟨0,rfl,Nat.zero_le _,by rw [RM.setl_zero HSR.out];exact HD.out.1,Touch.refl _ _⟩
    case round =>
     obtain ⟨j,rfl,hj,hd2,ht2⟩:=hrel
     obtain ⟨w6,rfl⟩:∃ w6,w6=wr:=⟨wr,rfl⟩
     have d0:=hd2.cell 0 (by omega)
     rw [HL0'.out] at d0
     have d2:=hd2.cell 2 (by omega)
     rw [HL2'.out] at d2
     have e2:w6.cell? ⟨g2,k,none⟩=some (.slice A2 W c2):=keepT ht2 HCU2.out (by show ¬ O1 g2=_;rw [HO2.out];simp)
     have HD2:=Lib.hid hd2
     have HT2:=Lib.hid ht2
     have HTW:Hid (Touch (fun k=>O k≠.none) w w6):=HT.out.trans' ht2 fun x hx=>HD.out.2.2 x (by rw [hx];simp)
     clear hd2 ht2
     by_cases hjl:j<W
     ·have hj8:j/8≤1000000:=by omega
      have hdv:=i64_div8 j (by omega)
      obtain ⟨p,hp⟩:∃ p,wrow[j]?=some p:=⟨_,List.getElem?_eq_getElem (by rw [← HW.out];exact hjl)⟩
      have HP:=Lib.hid hp
      clear hp
      have hstep:∀ b,bitAt text j=b→mk.setl k text (j+1)=if b then { mk.setl k text j with sure:=(mk.setl k text j).sure.set k ((setlRow text wrow j srow).set p.1 p.2) } else mk.setl k text j:=fun b hb=>by
       rw [← hb];exact RM.setl_step text j HSR.out HWR.out HP.out
      have HST:=Lib.hid hstep
      clear hstep
      by_cases h8:j/8<tl
      ·obtain ⟨x,hx⟩:∃ x,text[j/8]?=some x:=⟨_,List.getElem?_eq_getElem (by rw [← HTL.out];exact h8)⟩
       obtain ⟨a,rfl,hcx⟩:=HM.out.2.2 w6 HTW.out _ _ hx
       have hb:=HM.out.1 x (List.mem_of_getElem? hx)
       have hbit:bitAt text j=(bits .and .u8 (x/2 ^ (j%8)) 1==1):=by
        unfold bitAt
        rw [hx]
        have:=shr_lt x (j%8) hb
        rw [u8_and1 _ this.1 this.2]
       have HX:=Lib.hid hx
       clear hx
       cases hq:(bits .and .u8 (x/2 ^ (j%8)) 1==1)
       ·rw [hq] at hbit
        have hs:=HST.out _ hbit
        rw [if_neg (by simp)] at hs
        have HS:=Lib.hid hs
        clear hs hbit
        go_wp2_with fail
        go_roundw
        case rel=>exact ⟨j+1,by go_num,by omega,by rw [HS.out];exact HD2.out,HT2.out⟩
        case measure=>simp [intOf];omega
       ·rw [hq] at hbit
        have hs:=HST.out _ hbit
        rw [if_pos rfl] at hs
        have HS:=Lib.hid hs
        clear hs hbit
        obtain ⟨gw,cw,ew,how,hgw,_,_,hcells,_⟩:=HRU2.out.pos (by omega)
        injection ew with ew1 _ ew3
        subst ew1
        have hpa:=pen_at wrow j p HP.out
        have f1:w6.cell? ⟨gw,j*2,none⟩=some (.int .i64 (p.1:Int)):=keepT HT2.out ((hcells (j*2) (by show _<W*2;omega)).trans hpa.1) (by show ¬ O1 gw=_;rw [how];simp)
        have f2:w6.cell? ⟨gw,j*2+1,none⟩=some (.string (strOfNums p.2)):=keepT HT2.out ((hcells (j*2+1) (by show _<W*2;omega)).trans hpa.2) (by show ¬ O1 gw=_;rw [how];simp)
        have hps:p.1<sl:=by rw [HSL.out];exact HWT.out p (List.mem_of_getElem? HP.out)
        have hpi:(p.1:Int)<sl:=by omega
        have hji:(j:Int)<W:=by omega
        obtain ⟨q1,cq1,hcq,⟨v1,hv1⟩,hf1,hoq1,hst1⟩:=HD2.out.stored1 (t:=0) (by omega) (by omega) (G0_at (RM.setl_at text j HSR.out HWR.out)) (i:=p.1) (by rw [setlRow_len,← HSL.out];exact hps) (g:=g0) (cap:=cap0) (by rw [RM.setl_len0,HL0'.out,HOKk.out.sureLen,HLN.out]) p.2
        rw [G_sure,← HS.out] at hst1
        rw [setlRow_len,← HSL.out] at hcq
        have HS1:=Lib.hid hst1
        have HOQ:=Lib.hid hoq1
        clear hst1 hoq1 hcells hpa how hgw ew3
        obtain ⟨pi,hpi'⟩:∃ n,n=p.1:=⟨_,rfl⟩
        obtain ⟨pb,hpb'⟩:∃ n,n=strOfNums p.2:=⟨_,rfl⟩
        rw [← hpi'] at f1 hps hpi hv1 hf1 HS1
        rw [← hpb'] at f2 HS1
        clear hpi' hpb'
        go_upto_region 10 with fail
        clear hcx hdv hj8
        go_still_tail 30,(by kernel_rfl)
        change wpList _ _ _ _ _ w6.drew
        have HS2:Hid (RAt ((w6.drew).setCell ⟨q1,pi,none⟩ (.string pb)) O1 hp L (mk.setl k text (j+1)).G m.left):=HS1.out.below (bdn (Below.refl _ _) 1)
        have HT3:Hid (Touch (fun q=>O1 q=.row 0 k) w5 ((w6.drew).setCell ⟨q1,pi,none⟩ (.string pb))):=(HT2.out.drew).setCell (p:=⟨q1,pi,none⟩) HOQ.out _
        have hv2:w6.drew.cell? ⟨q1,pi,none⟩=some v1:=hv1
        have hf2:w6.drew.frozen? ⟨q1,pi,none⟩=false:=hf1
        clear hv1 hf1 HS1 f1 f2 hcq d0 d2 e2
        generalize w6.drew=wD at *
        go_wp2_with fail
        go_roundw
        case rel=>exact ⟨j+1,by go_num,by omega,HS2.out,HT3.out⟩
        case measure=>simp [intOf];omega
      ·have hbit:bitAt text j=false:=by unfold bitAt;rw [List.getElem?_eq_none (by rw [← HTL.out];omega)]
       have hs:=HST.out _ hbit
       rw [if_neg (by simp)] at hs
       have HS:=Lib.hid hs
       clear hs hbit
       go_wp2_with fail
       go_roundw
       case rel=>exact ⟨j+1,by go_num,by omega,by rw [HS.out];exact HD2.out,HT2.out⟩
       case measure=>simp [intOf];omega
     ·obtain rfl:j=W:=by omega
      go_upto_region 11 with fail
      obtain ⟨S,hS⟩:∃ x,x=setlRow text wrow j srow:=⟨_,rfl⟩
      obtain ⟨mz,hmz⟩:∃ x,x=mk.setl k text j:=⟨_,rfl⟩
      have hzs:mz.sure[k]?=some S:=by rw [hmz,hS];exact RM.setl_at text j HSR.out HWR.out
      have hzseen:mz.seen=mk.seen:=by rw [hmz];rfl
      have hzwait:mz.wait=mk.wait:=by rw [hmz];rfl
      have hSl:S.length=sl:=by rw [hS,setlRow_len,HSL.out]
      have h:=HD2.out
      rw [← hmz] at h
      obtain ⟨nrow,hnr⟩:∃ x,mz.seen[k]?=some x:=⟨_,List.getElem?_eq_getElem (by rw [hzseen,HLN.out];exact hlt)⟩
      have hwz:mz.wait[k]?=some wrow:=by rw [hzwait];exact HWR.out
      have L0:L 0=.slice (some ⟨g0,0,none⟩) (mz.G 0).length cap0:=by rw [HL0'.out,hmz,RM.setl_len0,HOKk.out.sureLen,HLN.out]
      have L1:L 1=.slice (some ⟨g1,0,none⟩) (mz.G 1).length cap1:=by rw [HL1.out,G1_len,hzseen,HLN.out]
      have L2:L 2=.slice (some ⟨g2,0,none⟩) (mz.G 2).length cap2:=by rw [HL2'.out];unfold RM.G;simp [hzwait,HOKk.out.waitLen,HLN.out]
      obtain ⟨u0,_,hg0,hcu0,hfu0,hru0⟩:=h.rowL (t:=0) (by omega) (G0_at hzs) HL0'.out
      obtain ⟨u1,ho1,hg1,hcu1,hfu1,hru1⟩:=h.rowL (t:=1) (by omega) (G1_at hnr) HL1.out
      obtain ⟨u2,ho2,hg2,hcu2,hfu2,_⟩:=h.rowL (t:=2) (by omega) (G2_at hwz) HL2'.out
      have C0:=h.cell 0 (by omega)
      have C1:=h.cell 1 (by omega)
      have C2:=h.cell 2 (by omega)
      rw [HL0'.out] at C0
      rw [HL1.out] at C1
      rw [HL2'.out] at C2
      rw [List.length_map,flat_str] at hru0
      have hO1s:∀ q,O1 q≠.none→q<w6.heap.size:=fun q hq=>Nat.lt_of_lt_of_le (HD.out.2.1 q hq) HT2.out.size
      have HFIN:Hid (∀ W3 A9 c9,Below w6.heap.size w6 W3→RowAt W3 (fun q=>w6.heap.size≤q) 9 1 (.slice A9 S.length c9) S.length (sv S) →
       ∃ O3,(RAt ((W3.setCell ⟨g1,k,none⟩ (.slice A9 S.length c9)).setCell ⟨g2,k,none⟩ (.slice none 0 0)) O3 hp L (m.crashN ks (k+1)).G m.left∧(∀ q,O3 q≠.none→q<((W3.setCell ⟨g1,k,none⟩ (.slice A9 S.length c9)).setCell ⟨g2,k,none⟩ (.slice none 0 0)).heap.size)∧(∀ q,O3 q≠.none→O q≠.none∨w.heap.size≤q)) ∧
        Touch (fun k=>O k≠.none) w ((W3.setCell ⟨g1,k,none⟩ (.slice A9 S.length c9)).setCell ⟨g2,k,none⟩ (.slice none 0 0)) ∧
        (W3.setCell ⟨g1,k,none⟩ (.slice A9 S.length c9)).cell? ⟨g2,k,none⟩=some u2∧(W3.setCell ⟨g1,k,none⟩ (.slice A9 S.length c9)).frozen? ⟨g2,k,none⟩=false):=by
       intro W3 A9 c9 hb13 hrow3
       have hrow3':RowAt W3 (fun q=>O1 q=.row 1 k∨w6.heap.size≤q) (rER 1) (rSz 1) (.slice A9 S.length c9) (S.map strE).length (S.map strE).flatten:=by
        rw [List.length_map,flat_str]
        exact hrow3.owner fun q _ hq=>Or.inr hq
       obtain ⟨r1,r2,r3⟩:=h.putRow hO1s (t:=1) (by omega) (row':=S.map strE) (G1_at hnr) L1 (Touch.of_below hb13 _) hrow3'
       rw [G_seen] at r1
       obtain ⟨O2,hO2⟩:∃ x,x=rOwn O1 w6.heap.size 1 k (.slice A9 S.length c9):=⟨_,rfl⟩
       rw [← hO2] at r1 r2 r3
       have r2':∀ q,O2 q≠.none→q<(W3.setCell ⟨g1,k,none⟩ (.slice A9 S.length c9)).heap.size:=fun q hq=>by have:=r2 q hq;simpa using this
       obtain ⟨s1,s2,s3⟩:=r1.putRow r2' (t:=2) (by omega) (row:=wrow.map penE) (row':=([]:List (Nat × List Int)).map penE) (G2_at (m:={ mz with seen:=mz.seen.set k S }) hwz) (u':=.slice none 0 0) (g:=g2) (cap:=cap2) L2 (Touch.refl _ _) (RowAt.nil _ _ _ _)
       rw [G_wait] at s1
       have hg12:g2≠g1:=fun e=>by rw [e,ho1] at ho2;injection ho2 with h9;cases h9
       have hg3s:w6.heap.size≤W3.heap.size:=hb13.size
       have c31:W3.cell? ⟨g1,k,none⟩=some u1:=by rw [hb13.cell hg1];exact hcu1
       have f31:W3.frozen? ⟨g1,k,none⟩=false:=by rw [hb13.frozen hg1];exact hfu1
       have c32:(W3.setCell ⟨g1,k,none⟩ (.slice A9 S.length c9)).cell? ⟨g2,k,none⟩=some u2:=by
        rw [World.cell?_of_block (w:=W3) (by show (W3.setCell ⟨g1,k,none⟩ _).heap[g2]?=W3.heap[g2]?;exact Below.heap_setCell _ _ _ _ hg12),hb13.cell hg2];exact hcu2
       have f32:(W3.setCell ⟨g1,k,none⟩ (.slice A9 S.length c9)).frozen? ⟨g2,k,none⟩=false:=by
        rw [World.frozen?_of_block (w:=W3) (by show (W3.setCell ⟨g1,k,none⟩ _).heap[g2]?=W3.heap[g2]?;exact Below.heap_setCell _ _ _ _ hg12),hb13.frozen hg2];exact hfu2
       have hTq:Touch (fun q=>q=g1∨q=g2) w6 ((W3.setCell ⟨g1,k,none⟩ (.slice A9 S.length c9)).setCell ⟨g2,k,none⟩ (.slice none 0 0)):=((Touch.of_below hb13 _).setCell (p:=⟨g1,k,none⟩) (Or.inl rfl) _).setCell (p:=⟨g2,k,none⟩) (Or.inr rfl) _
       have hT0:Hid (Touch (fun k=>O k≠.none) w ((W3.setCell ⟨g1,k,none⟩ (.slice A9 S.length c9)).setCell ⟨g2,k,none⟩ (.slice none 0 0))):=HTW.out.trans' hTq fun x hx=>HD.out.2.2 x (by
        rcases hx with rfl | rfl
        ·rw [ho1];simp
        ·rw [ho2];simp)
       have s2':∀ q,rOwn O2 (W3.setCell ⟨g1,k,none⟩ (.slice A9 S.length c9)).heap.size 2 k (.slice none 0 0) q≠.none→q<((W3.setCell ⟨g1,k,none⟩ (.slice A9 S.length c9)).setCell ⟨g2,k,none⟩ (.slice none 0 0)).heap.size:=fun q hq=>by have:=s2 q hq;simpa using this
       have s3':∀ q,rOwn O2 (W3.setCell ⟨g1,k,none⟩ (.slice A9 S.length c9)).heap.size 2 k (.slice none 0 0) q≠.none→O q≠.none∨w.heap.size≤q:=fun q hq=>by
        rcases s3 q hq with h9 | h9
        ·rcases r3 q h9 with h8 | h8
         ·exact HD.out.2.2 q h8
         ·exact Or.inr (Nat.le_trans HTW.out.size h8)
        ·exact Or.inr (by
          have h10:(W3.setCell ⟨g1,k,none⟩ (.slice A9 S.length c9)).heap.size=W3.heap.size:=by simp
          have:=HTW.out.size
          omega)
       have ew:mk.wait.getD k []=wrow:=by rw [List.getD,HWR.out];rfl
       have es:mk.sure.getD k []=srow:=by rw [List.getD,HSR.out];rfl
       have e1:m.crashN ks (k+1)={ mz with seen:=mz.seen.set k S,wait:=mz.wait.set k [] }:=by
        show (m.crashN ks k).crash1 k (ks.getD k [])=_
        rw [← HMK.out,← HTX.out]
        unfold RM.crash1
        rw [ew,es,← HW.out,← hS,hmz]
        unfold RM.setl
        rw [ew,es,← hS]
       rw [← e1] at s1
       exact ⟨_,⟨s1,s2',s3'⟩,hT0.out,c32,f32⟩
      have HC0:Hid (∀ W,Below w6.heap.size w6 W→W.cell? ⟨hp,0,none⟩=some (.slice (some ⟨g0,0,none⟩) R cap0)):=fun W hW=>keepC hW C0
      have HC1:Hid (∀ W,Below w6.heap.size w6 W→W.cell? ⟨hp,1,none⟩=some (.slice (some ⟨g1,0,none⟩) R cap1)):=fun W hW=>keepC hW C1
      have HC2:Hid (∀ W,Below w6.heap.size w6 W→W.cell? ⟨hp,2,none⟩=some (.slice (some ⟨g2,0,none⟩) R cap2)):=fun W hW=>keepC hW C2
      have HCU:Hid (∀ W,Below w6.heap.size w6 W→W.cell? ⟨g0,k,none⟩=some u0):=fun W hW=>keepC hW hcu0
      have HCP:=Lib.hid (fun W (hW:Below w6.heap.size w6 W)=>hru0.below hW)
      have HCV:Hid (∀ W,Below w6.heap.size w6 W→W.cell? ⟨g1,k,none⟩=some u1∧W.frozen? ⟨g1,k,none⟩=false):=fun W hW=>⟨keepC hW hcu1,by rw [hW.frozen hg1];exact hfu1⟩
      have HSP:Hid (0<S.length∧S.length≤1000):=⟨by omega,by omega⟩
      have HG1:=Lib.hid hg1
      clear hSl h hru0 hru1 L0 L1 L2 hO1s hcu0 hfu0 hcu2 hfu2 hcu1 hfu1 hg0 hg1 hg2 ho1 ho2 hnr hwz hzs hzseen hzwait d0 d2 e2 hmz hS C0 C1 C2
      refine wp_region_rgj (VC11 hp k g0 g1 g2 w6.heap.size R cap0 cap1 cap2 S.length u0 (sv S)) (JC11 w6.heap.size g1 k S.length (sv S) w6) (fun i=>SC11 g1 i) (by kernel_rfl) (by kernel_rfl) (fun i j v w w' _ h hs=>h.on HG1.out hs) (Or.inl ⟨rfl,(Below.refl _ _).drew⟩) ?_
      simp only [RAll]
      refine ⟨?_,?_,?_,?_,?_,?_,?_,?_,?_,?_,?_,?_,?_,?_,?_,?_,?_,?_,?_,?_,?_,?_,?_⟩
      ·refine RStepJ.of rfl fun T W Ls hag hni hJ hdn hd=>?_
       have e0:T.getD 0 undef=_:=(agree_at hag 0 (by kernel_rfl)).trans rfl
       clear hag hd hdn
       go_simp
       exact ⟨_,rfl,rfl,hJ.add' 0 (by decide),SC11.refl _ _ (by decide)⟩
      ·refine RStepJ.of rfl fun T W Ls hag hni hJ hdn hd=>?_
       have d83:T.getD 83 undef=_:=hd ⟨0,.data⟩ (by simp) rfl _ rfl
       clear hag hd hdn
       go_simp
       exact ⟨_,rfl,rfl,hJ.add' 1 (by decide),SC11.refl _ _ (by decide)⟩
      ·refine RStepJ.of rfl fun T W Ls hag hni hJ hdn hd=>?_
       have d84:T.getD 84 undef=_:=hd ⟨1,.data⟩ (by simp) rfl _ rfl
       clear hag hd hdn
       go_simp
       exact ⟨_,rfl,rfl,hJ.add' 2 (by decide),SC11.refl _ _ (by decide)⟩
      ·refine RStepJ.of rfl fun T W Ls hag hni hJ hdn hd=>?_
       have d85:T.getD 85 undef=_:=hd ⟨2,.data⟩ (by simp) rfl _ rfl
       have hw:=hJ.fresh 3 (by decide) hni
       have fct0:=HC1.out W hw
       clear hag hd hdn
       go_simp
       exact ⟨_,rfl,rfl,hJ.add' 3 (by decide),SC11.refl _ _ (by decide)⟩
      ·refine RStepJ.of rfl fun T W Ls hag hni hJ hdn hd=>?_
       have e4:T.getD 4 undef=_:=(agree_at hag 4 (by kernel_rfl)).trans rfl
       clear hag hd hdn
       go_simp
       exact ⟨_,rfl,rfl,hJ.add' 4 (by decide),SC11.refl _ _ (by decide)⟩
      ·refine RStepJ.of rfl fun T W Ls hag hni hJ hdn hd=>?_
       have e0:T.getD 0 undef=_:=(agree_at hag 0 (by kernel_rfl)).trans rfl
       clear hag hd hdn
       go_simp
       exact ⟨_,rfl,rfl,hJ.add' 5 (by decide),SC11.refl _ _ (by decide)⟩
      ·refine RStepJ.of rfl fun T W Ls hag hni hJ hdn hd=>?_
       have d88:T.getD 88 undef=_:=hd ⟨5,.data⟩ (by simp) rfl _ rfl
       clear hag hd hdn
       go_simp
       exact ⟨_,rfl,rfl,hJ.add' 6 (by decide),SC11.refl _ _ (by decide)⟩
      ·refine RStepJ.of rfl fun T W Ls hag hni hJ hdn hd=>?_
       have d89:T.getD 89 undef=_:=hd ⟨6,.data⟩ (by simp) rfl _ rfl
       clear hag hd hdn
       go_simp
       exact ⟨_,rfl,rfl,hJ.add' 7 (by decide),SC11.refl _ _ (by decide)⟩
      ·refine RStepJ.of rfl fun T W Ls hag hni hJ hdn hd=>?_
       have d90:T.getD 90 undef=_:=hd ⟨7,.data⟩ (by simp) rfl _ rfl
       have hw:=hJ.fresh 8 (by decide) hni
       have fct0:=HC2.out W hw
       clear hag hd hdn
       go_simp
       exact ⟨_,rfl,rfl,hJ.add' 8 (by decide),SC11.refl _ _ (by decide)⟩
      ·refine RStepJ.of rfl fun T W Ls hag hni hJ hdn hd=>?_
       have e4:T.getD 4 undef=_:=(agree_at hag 4 (by kernel_rfl)).trans rfl
       clear hag hd hdn
       go_simp
       exact ⟨_,rfl,rfl,hJ.add' 9 (by decide),SC11.refl _ _ (by decide)⟩
      ·refine RStepJ.of rfl fun T W Ls hag hni hJ hdn hd=>?_
       clear hag hd hdn
       go_simp
       have hw:=hJ.fresh 10 (by decide) hni
       exact ⟨_,rfl,⟨W.heap.size,rfl,hw.size,heap_alloc_new W _⟩,hJ.grow' 10 (by decide) hni (hw.alloc hw.size _),SC11.grown (by decide) (World.grownBy_alloc W _ _)⟩
      ·refine RStepJ.of rfl fun T W Ls hag hni hJ hdn hd=>?_
       have e0:T.getD 0 undef=_:=(agree_at hag 0 (by kernel_rfl)).trans rfl
       clear hag hd hdn
       go_simp
       exact ⟨_,rfl,rfl,hJ.add' 11 (by decide),SC11.refl _ _ (by decide)⟩
      ·refine RStepJ.of rfl fun T W Ls hag hni hJ hdn hd=>?_
       have d94:T.getD 94 undef=_:=hd ⟨11,.data⟩ (by simp) rfl _ rfl
       clear hag hd hdn
       go_simp
       exact ⟨_,rfl,rfl,hJ.add' 12 (by decide),SC11.refl _ _ (by decide)⟩
      ·refine RStepJ.of rfl fun T W Ls hag hni hJ hdn hd=>?_
       have d95:T.getD 95 undef=_:=hd ⟨12,.data⟩ (by simp) rfl _ rfl
       clear hag hd hdn
       go_simp
       exact ⟨_,rfl,rfl,hJ.add' 13 (by decide),SC11.refl _ _ (by decide)⟩
      ·refine RStepJ.of rfl fun T W Ls hag hni hJ hdn hd=>?_
       have d96:T.getD 96 undef=_:=hd ⟨13,.data⟩ (by simp) rfl _ rfl
       have hw:=hJ.fresh 14 (by decide) hni
       have fct0:=HC0.out W hw
       clear hag hd hdn
       go_simp
       exact ⟨_,rfl,rfl,hJ.add' 14 (by decide),SC11.refl _ _ (by decide)⟩
      ·refine RStepJ.of rfl fun T W Ls hag hni hJ hdn hd=>?_
       have e4:T.getD 4 undef=_:=(agree_at hag 4 (by kernel_rfl)).trans rfl
       clear hag hd hdn
       go_simp
       exact ⟨_,rfl,rfl,hJ.add' 15 (by decide),SC11.refl _ _ (by decide)⟩
      ·refine RStepJ.of rfl fun T W Ls hag hni hJ hdn hd=>?_
       have d97:T.getD 97 undef=_:=hd ⟨14,.data⟩ (by simp) rfl _ rfl
       have d98:T.getD 98 undef=_:=hd ⟨15,.data⟩ (by simp) rfl _ rfl
       clear hag hd hdn
       go_simp
       exact ⟨_,rfl,rfl,hJ.add' 16 (by decide),SC11.refl _ _ (by decide)⟩
      ·refine RStepJ.of rfl fun T W Ls hag hni hJ hdn hd=>?_
       have d99:T.getD 99 undef=_:=hd ⟨16,.data⟩ (by simp) rfl _ rfl
       have hw:=hJ.fresh 17 (by decide) hni
       have fct0:=HCU.out W hw
       clear hag hd hdn
       go_simp
       exact ⟨_,rfl,rfl,hJ.add' 17 (by decide),SC11.refl _ _ (by decide)⟩
      ·refine RStepJ.of rfl fun T W Ls hag hni hJ hdn hd=>?_
       have x93:=hd ⟨10,.data⟩ (by simp) rfl _ rfl
       have d100:T.getD 100 undef=_:=hd ⟨17,.data⟩ (by simp) rfl _ rfl
       have hw:=hJ.fresh 18 (by decide) hni
       obtain ⟨q,(e93:T.getD 93 undef=_),hq,hqc⟩:=x93
       obtain ⟨v',W2,hrun,hrow,hb,hsl⟩:=copy_run (HCP.out W hw) HSP.out.1 HSP.out.2 (sv_one S) q hqc 63
       refine wp_app_run (.tmp 93) (.tmp 100) 63 63 rfl _ _ v' W2 e93 d100 hrun ?_
       exact ⟨_,rfl,⟨hrow.owner (fun k _ hk=>Nat.le_trans hw.size hk),hsl⟩,hJ.grow (by decide) hni (hw.trans (hb.mono hw.size)),SC11.grown (by decide) (growN hb)⟩
      ·refine RStepJ.of rfl fun T W Ls hag hni hJ hdn hd=>?_
       have d86:T.getD 86 undef=_:=hd ⟨3,.data⟩ (by simp) rfl _ rfl
       have d87:T.getD 87 undef=_:=hd ⟨4,.data⟩ (by simp) rfl _ rfl
       clear hag hd hdn
       go_simp
       exact ⟨_,rfl,rfl,hJ.add' 19 (by decide),SC11.refl _ _ (by decide)⟩
      ·refine RStepJ.of rfl fun T W Ls hag hni hJ hdn hd=>?_
       have d102:T.getD 102 undef=_:=hd ⟨19,.data⟩ (by simp) rfl _ rfl
       have x101:=hd ⟨18,.data⟩ (by simp) rfl _ rfl
       have hw:=hJ.fresh 20 (by decide) hni
       obtain ⟨hrow,A9,c9,(e101:T.getD 101 undef=_)⟩:=x101
       have hrow':RowAt W (fun q=>w6.heap.size≤q) 9 1 (T.getD 101 undef) S.length (sv S):=hrow
       rw [e101] at hrow'
       have cs1:=HCV.out W hw
       have hdeps:=And.intro (hdn ⟨3,.phase⟩ (by simp) rfl) (And.intro (hdn ⟨8,.phase⟩ (by simp) rfl) (And.intro (hdn ⟨10,.phase⟩ (by simp) rfl) (And.intro (hdn ⟨14,.phase⟩ (by simp) rfl) (And.intro (hdn ⟨17,.phase⟩ (by simp) rfl) (hdn ⟨18,.data⟩ (by simp) rfl)))))
       have HJ2:Hid (JC11 w6.heap.size g1 k S.length (sv S) w6 (fun j=>decide (20=j)||Ls j) (W.setCell ⟨g1,k,none⟩ (.slice A9 S.length c9))):=Or.inr ⟨by simp,by simpa using hdeps,W,_,hw,hrow',⟨_,_,rfl⟩,rfl⟩
       have cc:=cs1.1
       have cf:=cs1.2
       rw [Array.getD_eq_getD_getElem?] at e101
       clear hag hd hdn hrow hrow' cs1 hdeps
       go_simp
       exact ⟨trivial,HJ2.out,SC11.set _⟩
      ·refine RStepJ.of rfl fun T W Ls hag hni hJ hdn hd=>?_
       have d91:T.getD 91 undef=_:=hd ⟨8,.data⟩ (by simp) rfl _ rfl
       have d92:T.getD 92 undef=_:=hd ⟨9,.data⟩ (by simp) rfl _ rfl
       clear hag hd hdn
       go_simp
       exact ⟨_,rfl,rfl,hJ.add' 21 (by decide),SC11.refl _ _ (by decide)⟩
      ·refine RLastJ.of rfl fun T W Ls hag hall hni hJ hd=>?_
       have d103:T.getD 103 undef=_:=hd 21 _ (by simp) rfl
       obtain ⟨W3,v9,hb3,hrow3,⟨A9,c9,rfl⟩,rfl⟩:=hJ.done (hall 20 (by decide))
       obtain ⟨O3,hfin,hct,hcc,hcf⟩:=HFIN.out W3 A9 c9 hb3 hrow3
       have HF:=Lib.hid hfin
       have HTT:=Lib.hid hct
       obtain ⟨f,hf,hT⟩:=agree_fn hag
       have h103:=(hf 103).trans d103
       clear hag hd d103 hf hb3 hrow3 hfin hct hJ hall hni
       rw [hT]
       clear hT
       simp only [List.filterMap_cons,List.filterMap_nil,List.foldl_cons,List.foldl_nil,List.setIfInBounds_toArray,List.set_cons_succ,List.set_cons_zero,h103]
       go_wp2_with fail
       go_roundw
       case rel=>exact ⟨k+1,by go_num,by omega,_,HF.out,HTT.out⟩
       case measure=>simp [intOf];omega
  ·obtain rfl:k=R:=by omega
   have hc4:=HD.out.1.c4
   have hfr:=HD.out.1.free 4
   go_wp2_with fail
   go_end0
   refine ⟨rfl,O1,?_,?_,HD.out.2.2,?_⟩
   ·unfold RM.crash;rw [HR.out];exact HD.out.1.setLeft (-1)
   ·intro q hq;have:=HD.out.2.1 q hq;simpa using this
   ·exact HT.out.setCell (p:=⟨hp,4,none⟩) (by show O hp≠.none;rw [HH.out.ohd];simp) _
end
def ownL (l:List DWr) (r:Nat):List (Nat × List Int):=(l.filter (fun x=>x.r==r)).map fun x=>(x.i,x.b)
def down (m:DM) (r:Nat):List (Nat × List Int):=ownL (since m r) r
def refLeft (m:DM):Int:=if m.stops then (m.left:Int) else -1
def refOf (m:DM):RM:={ sure:=m.sure,seen:=m.now,wait:=(List.range m.now.length).map (down m),traces:=(List.range m.now.length).map (traceL m),left:=refLeft m }
theorem range_map_at {α:Type} {n k:Nat} (f:Nat→α) (h:k<n):((List.range n).map f)[k]?=some (f k):=by
 rw [List.getElem?_map,List.getElem?_range h];rfl
theorem range_map_set {α:Type} {n r:Nat} (f g:Nat→α) (x:α) (hr:r<n) (h1:g r=x) (h2:∀ k,k<n→k≠r→g k=f k):(List.range n).map g=((List.range n).map f).set r x:=by
 apply List.ext_getElem?
 intro k
 rw [List.getElem?_set]
 by_cases hk:k<n
 ·rw [range_map_at g hk]
  by_cases e:r=k
  ·subst e;rw [if_pos rfl,if_pos (by simpa using hk),h1]
  ·rw [if_neg e,range_map_at f hk,h2 k hk (Ne.symm e)]
 ·rw [List.getElem?_eq_none (by simpa using hk)]
  rw [if_neg (by omega),List.getElem?_eq_none (by simpa using hk)]
theorem ext_getD {α:Type} {l1 l2:List (List α)} (hl:l1.length=l2.length) (h:∀ k,l1.getD k []=l2.getD k []):l1=l2:=by
 apply List.ext_getElem hl
 intro k h1 h2
 have:=h k
 rw [List.getD,List.getD,List.getElem?_eq_getElem h1,List.getElem?_eq_getElem h2] at this
 exact this
theorem getD_set_row {α:Type} (l:List (List α)) (r:Nat) (x:List α) (hr:r<l.length) (k:Nat):(l.set r x).getD k []=if k=r then x else l.getD k []:=by
 rw [List.getD,List.getElem?_set]
 by_cases e:r=k
 ·subst e;rw [if_pos rfl,if_pos hr,if_pos rfl];rfl
 ·rw [if_neg e,if_neg (Ne.symm e)];rfl
theorem ownL_snoc (l:List DWr) (x:DWr) (r:Nat):ownL (l++[x]) r=ownL l r++(if x.r=r then [(x.i,x.b)] else []):=by
 unfold ownL
 rw [List.filter_append,List.map_append]
 congr 1
 by_cases e:x.r=r
 ·rw [if_pos e];simp [e]
 ·rw [if_neg e];simp [e]
theorem traceL_snoc (m:DM) (x:DWr) (r:Nat):((m.done++[x]).filter (fun y=>y.r==r)).map traceB=traceL m r++(if x.r=r then [traceB x] else []):=by
 unfold traceL
 rw [List.filter_append,List.map_append]
 congr 1
 by_cases e:x.r=r
 ·rw [if_pos e];simp [e]
 ·rw [if_neg e];simp [e]
theorem ownL_len (l:List DWr) (r:Nat):(ownL l r).length=pend l r:=by unfold ownL pend;rw [List.length_map]
theorem down_len (m:DM) (r:Nat):(down m r).length≤m.done.length:=by unfold down;rw [ownL_len];exact pend_le m r
theorem setlRow_app (bs:List Int) (wt:List (Nat × List Int)) (p:Nat × List Int):∀ n s,n≤wt.length→setlRow bs (wt++[p]) n s=setlRow bs wt n s
 | 0,_,_=>rfl
 | n+1,s,h=>by
   unfold setlRow
   rw [setlRow_app bs wt p n s (by omega),List.getElem?_append_left (by omega)]
theorem snocInd {α:Type} {P:List α→Prop} (h0:P []) (h1:∀ l x,P l→P (l++[x])) (l:List α):P l:=by
 rw [← List.reverse_reverse l]
 induction l.reverse with
 | nil=>exact h0
 | cons x l ih=>rw [List.reverse_cons];exact h1 _ _ ih
theorem rowW_own (r:Nat) (bs:List Int) (s:List (List Int)) (l:List DWr):(∀ x∈l,x.r=r→x.i≠65535)→rowW l r (bitAt bs) 0 s=setlRow bs (ownL l r) (ownL l r).length s:=by
 refine snocInd (P:=fun l=>(∀ x∈l,x.r=r→x.i≠65535)→rowW l r (bitAt bs) 0 s=setlRow bs (ownL l r) (ownL l r).length s) (fun _=>rfl) (fun l x ih h=>?_) l
 have hc:∀ y∈l,y.r=r→y.i≠65535:=fun y hy=>h y (List.mem_append_left _ hy)
 have ih:=ih hc
 rw [ownL_snoc]
 by_cases e:x.r=r
 ·rw [if_pos e,rowW_snoc l x r _ hc e (h x (by simp) e),Nat.zero_add,ih,List.length_append]
  show _=setlRow bs (ownL l r++[(x.i,x.b)]) ((ownL l r).length+1) s
  rw [setlRow,setlRow_app _ _ _ _ _ (Nat.le_refl _),List.getElem?_append_right (Nat.le_refl _),Nat.sub_self,ownL_len]
  rfl
 ·rw [if_neg e,rowW_skip l x r _ (Or.inl e),ih,List.append_nil]
section
variable {m:DM}
theorem ref_write (hm:m.Ok) {r i:Nat} (b:List Int) (hr:r<m.now.length) (hi:i≤1000) (hst:stopped m=false):refOf (m.write r i b)=(refOf m).write r i b:=by
 have hl:(m.write r i b).now.length=m.now.length:=by show (setAt _ _ _ _).length=_;unfold setAt;simp
 have e1:(List.range (m.write r i b).now.length).map (down (m.write r i b))=((refOf m).wait).set r ((refOf m).wait.getD r []++[(i,b)]):=by
  rw [hl]
  refine range_map_set (down m) _ _ hr ?_ fun k hk hne=>?_
  ·unfold down
   rw [since_write hm hr,ownL_snoc,if_pos rfl]
   congr 1
   rw [List.getD];unfold refOf;rw [range_map_at _ hr];rfl
  ·unfold down
   rw [since_write hm hk,ownL_snoc,if_neg (Ne.symm hne),List.append_nil]
 have e2:(List.range (m.write r i b).now.length).map (traceL (m.write r i b))=((refOf m).traces).set r ((refOf m).traces.getD r []++[((i/256:Nat):Int) :: ((i%256:Nat):Int) :: b]):=by
  rw [hl]
  refine range_map_set (traceL m) _ _ hr ?_ fun k hk hne=>?_
  ·show ((m.done++[(⟨r,i,b⟩:DWr)]).filter (fun y=>y.r==r)).map traceB=_
   rw [traceL_snoc,if_pos rfl]
   have e3:traceB ⟨r,i,b⟩=((i/256:Nat):Int) :: ((i%256:Nat):Int) :: b:=by
    unfold traceB
    rw [if_neg (by show ¬ i=65535;omega)]
    rfl
   rw [e3]
   congr 1
   rw [List.getD];unfold refOf;rw [range_map_at _ hr];rfl
  ·show ((m.done++[(⟨r,i,b⟩:DWr)]).filter (fun y=>y.r==k)).map traceB=_
   rw [traceL_snoc,if_neg (Ne.symm hne),List.append_nil]
 have e4:refLeft (m.write r i b)=max (refLeft m-1) (-1):=by
  unfold refLeft
  show (if m.stops then (((if m.stops then m.left-1 else m.left:Nat)):Int) else -1)=_
  unfold stopped at hst
  cases hs:m.stops
  ·rfl
  ·rw [hs] at hst
   have:m.left≠0:=by simpa using hst
   simp
   omega
 unfold RM.write
 rw [← e1,← e2]
 show _=RM.mk _ _ _ _ (max (refLeft m-1) (-1))
 rw [← e4]
 rfl
theorem settle_len (m:DM) (r:Nat) (kept:Nat→Bool) (hm:m.Ok):(m.settle r kept).sure.length=m.sure.length:=by
 have:∀ (l:List DWr) (nth:Nat) (s:List (List (List Int))),(settleW l r kept nth s).length=s.length:=by
  intro l
  induction l with
  | nil=>intro nth s;rfl
  | cons x l ih =>
    intro nth s
    unfold settleW
    split
    ·split
     ·rfl
     ·rw [ih];split
      ·unfold setAt;simp
      ·rfl
    ·exact ih _ _
 exact this _ _ _
theorem ref_barrier (hm:m.Ok) (ht:Told m) {r:Nat} (hr:r<m.now.length):refOf (m.barrier r)=(refOf m).barrier r:=by
 obtain ⟨h1,h2,h3,h4,h5⟩:=barrier_rows ht hm hr
 have e0:(m.barrier r).sure=m.sure.set r (m.now.getD r []):=by
  refine ext_getD ?_ fun k=>?_
  ·rw [List.length_set]
   unfold DM.barrier
   exact settle_len _ _ _ (hm.tell hr)
  ·rw [getD_set_row _ _ _ (by rw [hm.sureLen];exact hr)]
   by_cases e:k=r
   ·subst e;rw [if_pos rfl];exact h1
   ·rw [if_neg e];exact h2 k e
 have e1:(List.range m.now.length).map (down (m.barrier r))=((refOf m).wait).set r []:=by
  refine range_map_set (down m) _ _ hr ?_ fun k hk hne=>?_
  ·unfold down;rw [h4];rfl
  ·unfold down
   rw [h5 k hk hne,ownL_snoc,if_neg (Ne.symm hne),List.append_nil]
 have e2:(List.range m.now.length).map (traceL (m.barrier r))=((refOf m).traces).set r ((refOf m).traces.getD r []++[[255,255]]):=by
  refine range_map_set (traceL m) _ _ hr ?_ fun k hk hne=>?_
  ·show ((m.done++[(⟨r,65535,List.replicate 64 0⟩:DWr)]).filter (fun y=>y.r==r)).map traceB=_
   rw [traceL_snoc,if_pos rfl]
   have e3:traceB ⟨r,65535,List.replicate 64 0⟩=[255,255]:=by
    unfold traceB
    rw [if_pos rfl]
    simp
   rw [e3]
   congr 1
   rw [List.getD];unfold refOf;rw [range_map_at _ hr];rfl
  ·show ((m.done++[(⟨r,65535,List.replicate 64 0⟩:DWr)]).filter (fun y=>y.r==k)).map traceB=_
   rw [traceL_snoc,if_neg (Ne.symm hne),List.append_nil]
 unfold RM.barrier
 rw [← e1,← e2]
 show RM.mk (m.barrier r).sure _ _ _ _=RM.mk (m.sure.set r (m.now.getD r [])) _ _ _ _
 rw [e0]
 rfl
theorem ref_crash1 (hm:m.Ok) {r:Nat} (hc:∀ x∈since m r,x.r=r→x.i≠65535) (hr:r<m.now.length) (bs:List Int):refOf (m.crash1 r bs)=(refOf m).crash1 r bs:=by
 have hw:(refOf m).wait.getD r []=down m r:=by rw [List.getD];unfold refOf;rw [range_map_at _ hr];rfl
 have hrow:sureRow (m.settle r (bitAt bs)) r=setlRow bs (down m r) (down m r).length (m.sure.getD r []):=by
  rw [settle_same,rowW_own r bs _ _ hc];rfl
 have e0:(m.settle r (bitAt bs)).sure=m.sure.set r (setlRow bs (down m r) (down m r).length (m.sure.getD r [])):=by
  refine ext_getD ?_ fun k=>?_
  ·rw [List.length_set];exact settle_len _ _ _ hm
  ·rw [getD_set_row _ _ _ (by rw [hm.sureLen];exact hr)]
   by_cases e:k=r
   ·subst e;rw [if_pos rfl];exact hrow
   ·rw [if_neg e];exact (settle_other m r (bitAt bs) e).1
 have hl:(m.crash1 r bs).now.length=m.now.length:=by unfold DM.crash1;simp
 have hs:since (m.crash1 r bs) r=[]:=by
  show since (m.settle r (bitAt bs)) r=[]
  exact settle_since hm hr _
 have e1:(List.range (m.crash1 r bs).now.length).map (down (m.crash1 r bs))=((refOf m).wait).set r []:=by
  rw [hl]
  refine range_map_set (down m) _ _ hr ?_ fun k hk hne=>?_
  ·unfold down;rw [hs];rfl
  ·unfold down;rw [(crash1_other m r bs hne).2.2]
 have e2:(List.range (m.crash1 r bs).now.length).map (traceL (m.crash1 r bs))=(refOf m).traces:=by rw [hl];rfl
 unfold RM.crash1
 rw [hw]
 show RM.mk (m.settle r (bitAt bs)).sure (m.now.set r ((m.settle r (bitAt bs)).sure.getD r [])) _ _ _=RM.mk (m.sure.set r (setlRow bs (down m r) (down m r).length (m.sure.getD r []))) (m.now.set r (setlRow bs (down m r) (down m r).length (m.sure.getD r []))) _ _ _
 rw [e1,e2,e0]
 rw [show (m.sure.set r (setlRow bs (down m r) (down m r).length (m.sure.getD r []))).getD r []=setlRow bs (down m r) (down m r).length (m.sure.getD r []) from by rw [getD_set_row _ _ _ (by rw [hm.sureLen];exact hr),if_pos rfl]]
 rfl
theorem crashN_len2 (m:DM) (ks:List (List Int)) (n:Nat):(crashN m ks n).now.length=m.now.length:=(crashN_len m ks n).1
end
structure RelOk (m:DM):Prop where
 told:Told m
 pos:∀ z∈dims m,0<z
theorem dims_at {m:DM} {r:Nat} {row:List (List Int)} (h:m.now[r]?=some row):row.length∈dims m:=by unfold dims;exact List.mem_map.2 ⟨row,List.mem_of_getElem? h,rfl⟩
theorem own_mem {m:DM} {r:Nat} {p:Nat × List Int} (h:p∈down m r):∃ x∈since m r,x.r=r∧p=(x.i,x.b):=by
 unfold down ownL at h
 obtain ⟨x,hx,rfl⟩:=List.mem_map.1 h
 obtain ⟨h1,h2⟩:=List.mem_filter.1 hx
 exact ⟨x,h1,by simpa using h2,rfl⟩
theorem RelOk.ok {m:DM} (h:RelOk m) (hm:m.Ok):(refOf m).Ok where
 pos:=hm.pos
 few:=hm.few
 sureLen:=hm.sureLen
 waitLen:=by unfold refOf;simp
 trLen:=by unfold refOf;simp
 rows:=fun r row hr=>⟨(hm.rows r row hr).1,h.pos _ (dims_at hr),(hm.rows r row hr).2⟩
 sures:=hm.sures
 waits:=fun r row hr=>by
  have hr':((List.range m.now.length).map (down m))[r]?=some row:=hr
  have hlt:r<m.now.length:=by have:=(List.getElem?_eq_some_iff.1 hr').1;simpa using this
  rw [range_map_at _ hlt] at hr'
  injection hr' with hr';subst hr'
  intro p hp
  obtain ⟨x,hx,hxr,rfl⟩:=own_mem hp
  obtain ⟨⟨row,h1,h2⟩,h3⟩:=hm.dones x (List.mem_of_mem_drop hx)
  refine ⟨⟨row,by rw [← hxr];exact h1,?_⟩,h3⟩
  rcases h2 with h2 | h2
  ·exact h2
  ·exact absurd h2 (h.told.clean r hlt x hx hxr)
 left:=by
  have:=hm.left
  show -1≤refLeft m∧refLeft m≤9223372036854775807
  unfold refLeft
  split <;> omega
section
variable {m:DM}
theorem RelOk.write (h:RelOk m) (hm:m.Ok) (r i:Nat) (b:List Int) (hi:i≤1000):RelOk (m.write r i b):=⟨h.told.write hm r i b (by omega),by rw [dims_write];exact h.pos⟩
theorem RelOk.barrier (h:RelOk m) (hm:m.Ok) {r:Nat} (hr:r<m.now.length):RelOk (m.barrier r):=⟨h.told.barrier hm hr,h.pos⟩
theorem crashN_sure (h:m.Ok) (ks:List (List Int)):∀ n,n≤m.now.length→∀ r,r<n→sureRow (crashN m ks n) r=nowRow (crashN m ks n) r∧since (crashN m ks n) r=[]
 | 0,_,r,hr=>by omega
 | n+1,hn,r,hr=>by
   have hok:=crashN_ok h ks n (by omega)
   have hl:=crashN_len2 m ks n
   show sureRow ((crashN m ks n).crash1 n (ks.getD n [])) r=nowRow ((crashN m ks n).crash1 n (ks.getD n [])) r∧since ((crashN m ks n).crash1 n (ks.getD n [])) r=[]
   by_cases e:r=n
   ·subst e
    refine ⟨?_,settle_since hok (by omega) (bitAt (ks.getD r []))⟩
    show _=((crashN m ks r).now.set r (((crashN m ks r).settle r (bitAt (ks.getD r []))).sure.getD r [])).getD r []
    rw [getD_set_row _ _ _ (by omega),if_pos rfl]
    rfl
   ·obtain ⟨h1,h2,h3⟩:=crash1_other (crashN m ks n) n (ks.getD n []) e
    obtain ⟨h4,h5⟩:=crashN_sure h ks n (by omega) r (by omega)
    exact ⟨h2.trans (h4.trans h1.symm),h3.trans h5⟩
theorem Told.crash (hm:m.Ok) (ks:List (List Int)):Told (m.crash ks) where
 clean:=fun r hr x hx=>by
  rw [crash_len] at hr
  have:since (m.crash ks) r=[]:=(crashN_sure hm ks _ (Nat.le_refl _) r hr).2
  rw [this] at hx;cases hx
 full:=fun r hr=>by
  rw [crash_len] at hr
  have:since (m.crash ks) r=[]:=(crashN_sure hm ks _ (Nat.le_refl _) r hr).2
  rw [this]
  exact (crashN_sure hm ks _ (Nat.le_refl _) r hr).1
theorem RelOk.crash (h:RelOk m) (hm:m.Ok) (ks:List (List Int)):RelOk (m.crash ks):=⟨Told.crash hm ks,by rw [dims_crash hm];exact h.pos⟩
theorem ref_crashN (hm:m.Ok) (ht:Told m) (ks:List (List Int)):∀ n,n≤m.now.length→refOf (crashN m ks n)=(refOf m).crashN ks n
 | 0,_=>rfl
 | n+1,hn=>by
   have hok:=crashN_ok hm ks n (by omega)
   have hl:=crashN_len2 m ks n
   show refOf ((crashN m ks n).crash1 n (ks.getD n []))=((refOf m).crashN ks n).crash1 n (ks.getD n [])
   rw [← ref_crashN hm ht ks n (by omega)]
   refine ref_crash1 hok ?_ (by omega) _
   rw [((crashN_rows hm ks n (by omega)).2 n (Nat.le_refl _)).2.2]
   exact ht.clean n (by omega)
theorem ref_stop (m:DM) (n:Int):refOf (m.stop n)={ refOf m with left:=max n (-1) }:=by
 have e:refLeft (m.stop n)=max n (-1):=by
  unfold refLeft
  show (if decide (0≤n)=true then ((n.toNat:Nat):Int) else -1)=_
  by_cases h:0≤n
  ·rw [if_pos (decide_eq_true h)];omega
  ·rw [if_neg (by simpa using h)];omega
 unfold refOf
 rw [e]
 rfl
theorem ref_crash (hm:m.Ok) (ht:Told m) (ks:List (List Int)):refOf (m.crash ks)=(refOf m).crash ks:=by
 unfold DM.crash
 rw [ref_stop,ref_crashN hm ht ks _ (Nat.le_refl _)]
 rfl
def RM.make (zs:List Int):RM:={ sure:=zs.map zeroRow,seen:=zs.map zeroRow,wait:=List.replicate zs.length [],traces:=List.replicate zs.length [],left := -1 }
theorem ref_make (zs:List Int):refOf (DM.make zs)=RM.make zs:=by
 have e:∀ {α:Type} (f:Nat→List α),(∀ k,f k=[])→(List.range (zs.map zeroRow).length).map f=List.replicate zs.length []:=fun f h=>by
  rw [List.eq_replicate_iff]
  refine ⟨by simp,fun b hb=>?_⟩
  obtain ⟨k,_,rfl⟩:=List.mem_map.1 hb
  exact h k
 unfold refOf RM.make
 show RM.mk _ _ ((List.range (zs.map zeroRow).length).map (down (DM.make zs))) ((List.range (zs.map zeroRow).length).map (traceL (DM.make zs))) _=_
 rw [e _ fun k=>by unfold down since DM.make;simp [ownL],e _ fun k=>by unfold traceL DM.make;rfl]
 rfl
theorem RelOk.make {zs:List Int} (h:mayV zs=true):RelOk (DM.make zs):=by
 refine ⟨Told.make zs,fun z hz=>?_⟩
 unfold mayV at h
 simp only [Bool.and_eq_true,decide_eq_true_eq,Bool.not_eq_true',List.any_eq_false,badSize,Bool.or_eq_true,not_or] at h
 obtain ⟨h1,h2,h3⟩:=h
 unfold dims DM.make at hz
 obtain ⟨row,hrow,rfl⟩:=List.mem_map.1 hz
 obtain ⟨y,hy,rfl⟩:=List.mem_map.1 hrow
 have:=h3 y hy
 unfold zeroRow
 rw [List.length_replicate];omega
theorem is_has (m:DM) (r i:Int):(refOf m).is r i=hasB m r i:=by
 unfold RM.is hasB hasR RM.rowLen
 rfl
theorem left_zero (m:DM):(refOf m).left=0↔stopped m=true:=by
 show refLeft m=0↔_
 unfold refLeft stopped
 cases m.stops
 ·simp
 ·simp
end
end Go.Proofs.YtamnpblijdgdaaaGreat
