/- For VolAll: contracts and facts, part 37. -/
import Derived.Deep.CutBlock
import Derived.Test.YtamnpblijdgdaaaGreatV29
import Derived.Test.YtamnpblijdgdaaaGreatV36
namespace Go.Proofs.YtamnpblijdgdaaaGreat
open Go.ChangeShapes Go.WideShapes Go.ChangeAt Go.RowKit
set_option linter.unusedVariables false
set_option maxRecDepth 100000
structure TD (w0 W:World) (P:Nat→Prop) (q:Nat) (m:DM) (hd:Nat) (m2:DM):Prop where
 ex:∃ F FR,Dev W F q m∧Ref W FR hd (refOf m2).G (refOf m2).left∧(∀ k,F k→w0.heap.size≤k∧¬ P k∧¬ FR k)∧(∀ k,FR k→w0.heap.size≤k∧¬ P k)
 ok:m2.Ok
 rel:RelOk m2
 low:∀ k,P k→k<W.heap.size
 bel:Below w0.heap.size w0 W
section
variable {w0 W W':World} {P P':Nat→Prop} {q hd:Nat} {m m2:DM}
theorem TD.prog (h:TD w0 W P q m hd m2):∃ FR:Nat→Prop,DS w0 W (fun k=>P k∨FR k) q m∧(∀ k,FR k→¬ P k∧k<W.heap.size)∧∀ (P':Nat→Prop) (W':World) (m':DM),DS w0 W' (fun k=>P' k∨FR k) q m'→Same FR W W'→(∀ k,P' k→¬ FR k)→TD w0 W' P' q m' hd m2:=by
 obtain ⟨F,FR,h1,h2,h3,h4⟩:=h.ex
 refine ⟨FR,⟨⟨F,h1,fun k hk=>(h3 k hk).1,fun k hk hf=>hk.elim (fun hk=>(h3 k hf).2.1 hk) (fun hk=>(h3 k hf).2.2 hk)⟩,fun k hk=>hk.elim (h.low k) (h2.lt k),h.bel⟩,fun k hk=>⟨(h4 k hk).2,h2.lt k hk⟩,fun P' W' m' hd' hs hp=>?_⟩
 obtain ⟨F',g1,g2,g3⟩:=hd'.dev
 exact ⟨⟨F',FR,g1,h2.keep (fun k _ hf=>hs.blk k hf) hs.size,fun k hk=>⟨g2 k hk,fun hp'=>g3 k (Or.inl hp') hk,fun hf=>g3 k (Or.inr hf) hk⟩,fun k hk=>⟨(h4 k hk).1,fun hp'=>hp k hp' hk⟩⟩,h.ok,h.rel,fun k hk=>hd'.low k (Or.inl hk),hd'.bel⟩
theorem TD.ref (h:TD w0 W P q m hd m2):∃ F:Nat→Prop,RS w0 W (fun k=>P k∨F k) hd m2∧(∀ k,F k→¬ P k∧k<W.heap.size)∧∀ (P':Nat→Prop) (W':World) (m2':DM),RS w0 W' (fun k=>P' k∨F k) hd m2'→Same F W W'→(∀ k,P' k→¬ F k)→TD w0 W' P' q m hd m2':=by
 obtain ⟨F,FR,h1,h2,h3,h4⟩:=h.ex
 refine ⟨F,⟨⟨FR,h2,fun k hk=>(h4 k hk).1,fun k hk hf=>hk.elim (fun hk=>(h4 k hf).2 hk) (fun hk=>(h3 k hk).2.2 hf)⟩,h.ok,h.rel,fun k hk=>hk.elim (h.low k) (h1.lt k),h.bel⟩,fun k hk=>⟨(h3 k hk).2.1,h1.lt k hk⟩,fun P' W' m2' hr hs hp=>?_⟩
 obtain ⟨FR',g1,g2,g3⟩:=hr.dev
 exact ⟨⟨F,FR',h1.keep (fun k _ hf=>hs.blk k hf) hs.size,g1,fun k hk=>⟨(h3 k hk).1,fun hp'=>hp k hp' hk,fun hf=>g3 k (Or.inr hk) hf⟩,fun k hk=>⟨g2 k hk,fun hp'=>g3 k (Or.inl hp') hk⟩⟩,hr.ok,hr.rel,fun k hk=>hr.low k (Or.inl hk),hr.bel⟩
theorem TD.mono (h:TD w0 W P q m hd m2) (hP:∀ k,P' k→P k):TD w0 W P' q m hd m2:=by
 obtain ⟨F,FR,h1,h2,h3,h4⟩:=h.ex
 exact ⟨⟨F,FR,h1,h2,fun k hk=>⟨(h3 k hk).1,fun hp=>(h3 k hk).2.1 (hP k hp),(h3 k hk).2.2⟩,fun k hk=>⟨(h4 k hk).1,fun hp=>(h4 k hk).2 (hP k hp)⟩⟩,h.ok,h.rel,fun k hk=>h.low k (hP k hk),h.bel⟩
theorem TD.below (h:TD w0 W P q m hd m2) (hb:Below W.heap.size W W') (hP:∀ k,P' k→P k∨(W.heap.size≤k∧k<W'.heap.size)):TD w0 W' P' q m hd m2:=by
 obtain ⟨F,FR,h1,h2,h3,h4⟩:=h.ex
 refine ⟨⟨F,FR,h1.below hb,h2.below hb,fun k hk=>⟨(h3 k hk).1,fun hp=>?_,(h3 k hk).2.2⟩,fun k hk=>⟨(h4 k hk).1,fun hp=>?_⟩⟩,h.ok,h.rel,fun k hk=>?_,h.bel.trans (hb.mono h.bel.size)⟩
 ·rcases hP k hp with h5 | h5
  ·exact (h3 k hk).2.1 h5
  ·have:=h1.lt k hk;omega
 ·rcases hP k hp with h5 | h5
  ·exact (h4 k hk).2 h5
  ·have:=h2.lt k hk;omega
 ·rcases hP k hk with h5 | h5
  ·have:=h.low k h5;have:=hb.size;omega
  ·exact h5.2
theorem TD.made {w1 w2:World} {F FR:Nat→Prop} {zs:List Int} (hb0:Below w0.heap.size w0 W) (h1:Dev w1 F q (DM.make zs)) (h2:∀ k,F k→W.heap.size≤k) (hb1:Below W.heap.size W w1) (g1:Ref w2 FR hd (RM.make zs).G (-1)) (g2:∀ k,FR k→w1.heap.size≤k) (hb2:Below w1.heap.size w1 w2) (hm:mayV zs=true):TD w0 w2 (fun k=>k<W.heap.size) q (DM.make zs) hd (DM.make zs):=by
 have hs0:=hb0.size
 have hs1:=hb1.size
 have hs2:=hb2.size
 refine ⟨⟨F,FR,h1.below hb2,?_,fun k hk=>⟨?_,?_,fun hf=>?_⟩,fun k hk=>⟨?_,?_⟩⟩,DM.make_ok hm,RelOk.make hm,fun k hk=>by omega,(hb0.trans (hb1.mono hs0)).trans (hb2.mono (by omega))⟩
 ·rw [ref_make];exact g1
 ·have:=h2 k hk;omega
 ·have:=h2 k hk;omega
 ·have:=g2 k hf;have:=h1.lt k hk;omega
 ·have:=g2 k hk;omega
 ·have:=g2 k hk;omega
theorem TD.crashP (h:TD w0 W P q m hd m2) {A:Option Addr} {ks:List Int} {c g:Nat} {t:TypeId} (hy:Byt w0 A ks) (hB:AllB ks) (h1:ks.length≤c) (h2:c≤9223372036854775807) (hg:W.heap[g]?=some (.cells #[.slice A ks.length c] t (0,0))) (hP:P g) (hmax:m.done.length≤1000000) :
 Calls Tryz.prog 19 #[.pointer (some ⟨q,0,none⟩),.slice (some ⟨g,0,none⟩) 1 1] W fun e w'=>e=.returned (.tuple #[])∧TD w0 w' P q (m.crash [ks]) hd m2∧Same P W w':=by
 obtain ⟨FR,hds,hfr,back⟩:=h.prog
 refine (hds.crash (some ⟨g,0,none⟩) [ks] 1 (fun F f1 f2=>txt1 hds.bel hy hB h1 h2 f1 hg (f2 g (Or.inl hP))) (by simp) hmax).mono ?_
 rintro e w' ⟨he,hd',hs⟩
 exact ⟨he,back P w' _ hd' ⟨fun k hk=>hs.blk k (Or.inr hk),hs.size⟩ (fun k hp hf=>(hfr k hf).1 hp),⟨fun k hk=>hs.blk k (Or.inl hk),hs.size⟩⟩
theorem TD.crashR (h:TD w0 W P q m hd m2) {A:Option Addr} {ks:List Int} {c g:Nat} {t:TypeId} (hy:Byt w0 A ks) (hB:AllB ks) (h1:ks.length≤c) (h2:c≤9223372036854775807) (hg:W.heap[g]?=some (.cells #[.slice A ks.length c] t (0,0))) (hP:P g) (hmax:m2.done.length≤100000) :
 Calls Tryz.prog 20 #[.pointer (some ⟨hd,0,none⟩),.slice (some ⟨g,0,none⟩) 1 1] W fun e w'=>e=.returned (.tuple #[])∧TD w0 w' P q m hd (m2.crash [ks])∧Same P W w':=by
 obtain ⟨F,hrs,hfr,back⟩:=h.ref
 refine (hrs.crash (some ⟨g,0,none⟩) [ks] 1 (fun F f1 f2=>txt1 hrs.bel hy hB h1 h2 f1 hg (f2 g (Or.inl hP))) (by simp) hmax).mono ?_
 rintro e w' ⟨he,hd',hs⟩
 exact ⟨he,back P w' _ hd' ⟨fun k hk=>hs.blk k (Or.inr hk),hs.size⟩ (fun k hp hf=>(hfr k hf).1 hp),⟨fun k hk=>hs.blk k (Or.inl hk),hs.size⟩⟩
theorem TD.makeP (h:TD w0 W P q m hd m2) (r:Int) (hr:i64 r) (n g:Nat) (fr:Int) (hn:n≤200) (hg:g≤1000) (hyes:(rowV m r ((1+g+n:Nat):Int)).isSome=true) (hmax:m.done.length+n≤999000) :
 Calls Tryz.prog 11 #[.pointer (some ⟨q,0,none⟩),.int .i64 r,shQ 0 0 n g fr] W fun e w'=>e=.returned (.bool true)∧TD w0 w' P q (makeM m r n g) hd m2∧Same P W w':=by
 obtain ⟨FR,hds,hfr,back⟩:=h.prog
 refine (vmake_any hds r hr n g fr hn hg hyes hmax).mono ?_
 rintro e w' ⟨he,hd',hs⟩
 exact ⟨he,back P w' _ hd' ⟨fun k hk=>hs.blk k (Or.inr hk),hs.size⟩ (fun k hp hf=>(hfr k hf).1 hp),⟨fun k hk=>hs.blk k (Or.inl hk),hs.size⟩⟩
theorem TD.makeNo (h:TD w0 W P q m hd m2) (r:Int) (hr:i64 r) (n g:Nat) (fr:Int) (hn:n≤200) (hg:g≤1000) (hno:rowV m r ((1+g+n:Nat):Int)=none) :
 Calls Tryz.prog 11 #[.pointer (some ⟨q,0,none⟩),.int .i64 r,shQ 0 0 n g fr] W fun e w'=>e=.returned (.bool false)∧Below W.heap.size W w':=by
 obtain ⟨FR,hds,_,_⟩:=h.prog
 exact vmake_no (hds.rd r hr) n g fr hn hg hno
theorem TD.makeR (h:TD w0 W P q m hd m2) (r:Nat) (hr:r≤1000) {row:List (List Int)} (hrow:m2.now[r]?=some row) (n g:Nat) (fr:Int) (hn:n≤199) (hg:g≤1000) (hlen:2+g+n≤row.length) (hmax:m2.done.length+n≤99000) :
 Calls Tryz.prog 12 #[.pointer (some ⟨hd,0,none⟩),.int .i64 r,shQ 0 0 n g fr] W fun e w'=>e=.returned (.bool true)∧TD w0 w' P q m hd (makeM m2 r n g)∧Same P W w':=by
 obtain ⟨F,hrs,hfr,back⟩:=h.ref
 refine (rmake_any hrs r hr hrow n g fr hn hg hlen hmax).mono ?_
 rintro e w' ⟨he,hd',hs⟩
 exact ⟨he,back P w' _ hd' ⟨fun k hk=>hs.blk k (Or.inr hk),hs.size⟩ (fun k hp hf=>(hfr k hf).1 hp),⟨fun k hk=>hs.blk k (Or.inl hk),hs.size⟩⟩
end
def P5 (P:Nat→Prop) (hp rb rh rr rm:Nat):Nat→Prop:=fun k=>P k∨k=hp∨k=rb∨k=rh∨k=rr∨k=rm
structure Ne5 (B:Nat) (P:Nat→Prop) (hp rb rh rr rm:Nat):Prop where
 p:∀ k,P k→k≠hp∧k≠rb∧k≠rh∧k≠rr∧k≠rm
 ne:hp≠rb∧hp≠rh∧hp≠rr∧hp≠rm∧rb≠rh∧rb≠rr∧rb≠rm∧rh≠rr∧rh≠rm∧rr≠rm
 lo:B≤hp∧B≤rb∧B≤rh∧B≤rr∧B≤rm
structure TT (w0 W:World) (P:Nat→Prop) (q hp rb:Nat) (m:DM) (v:VM) (hd rh rr rm cap cm:Nat) (m2:DM) (v2:VM):Prop where
 td:TD w0 W (P5 P hp rb rh rr rm) q m hd m2
 at_:VolAt W q hp rb v
 ra:RVAt W hd rh rr rm cap cm v2
 n5:Ne5 w0.heap.size P hp rb rh rr rm
section
variable {w0 W W':World} {P P':Nat→Prop} {q hp rb hd rh rr rm cap cm:Nat} {m m2:DM} {v v2:VM}
theorem TT.below (h:TT w0 W P q hp rb m v hd rh rr rm cap cm m2 v2) (hb:Below W.heap.size W W'):TT w0 W' P q hp rb m v hd rh rr rm cap cm m2 v2:=by
 have h1:=h.td.low
 exact ⟨h.td.below hb fun k hk=>Or.inl hk,h.at_.keep (hb.block _ (h1 hp (Or.inr (Or.inl rfl)))) (hb.block _ (h1 rb (Or.inr (Or.inr (Or.inl rfl))))),h.ra.keep (hb.block _ (h1 rh (Or.inr (Or.inr (Or.inr (Or.inl rfl)))))) (hb.block _ (h1 rr (Or.inr (Or.inr (Or.inr (Or.inr (Or.inl rfl))))))) (hb.block _ (h1 rm (Or.inr (Or.inr (Or.inr (Or.inr (Or.inr rfl))))))),h.n5⟩
theorem TT.bel (h:TT w0 W P q hp rb m v hd rh rr rm cap cm m2 v2):Below w0.heap.size w0 W:=h.td.bel
theorem TT.drop (h:TT w0 W P q hp rb m v hd rh rr rm cap cm m2 v2):TD w0 W P q m hd m2:=h.td.mono fun k hk=>Or.inl hk
theorem TT.onP (h:TT w0 W P q hp rb m v hd rh rr rm cap cm m2 v2):∃ P1:Nat→Prop,SV w0 W P1 q m hp rb v∧(∀ k,P k→Rst P1 hp rb k)∧∀ (W':World) (m':DM) (v':VM),SV w0 W' P1 q m' hp rb v'→Same (Rst P1 hp rb) W W'→TT w0 W' P q hp rb m' v' hd rh rr rm cap cm m2 v2∧Same P W W':=by
 obtain ⟨FR,hds,hfr,back⟩:=h.td.prog
 obtain ⟨n1,n2,n3,n4,n5,n6,n7,n8,n9,n10⟩:=h.n5.ne
 refine ⟨fun k=>P5 P hp rb rh rr rm k∨FR k,⟨hds,h.at_,Or.inl (Or.inr (Or.inl rfl)),Or.inl (Or.inr (Or.inr (Or.inl rfl))),h.n5.lo.1,h.n5.lo.2.1,n1⟩,fun k hk=>⟨Or.inl (Or.inl hk),(h.n5.p k hk).1,(h.n5.p k hk).2.1⟩,fun W' m' v' hsv hs=>?_⟩
 have hF:∀ k,FR k→W'.heap[k]?=W.heap[k]?:=fun k hk=>hs.blk k ⟨Or.inr hk,fun e=>(hfr k hk).1 (Or.inr (Or.inl e)),fun e=>(hfr k hk).1 (Or.inr (Or.inr (Or.inl e)))⟩
 refine ⟨⟨back _ W' m' hsv.ds ⟨hF,hs.size⟩ fun k hp hf=>(hfr k hf).1 hp,hsv.at_,h.ra.keep (hs.blk _ ⟨Or.inl (Or.inr (Or.inr (Or.inr (Or.inl rfl)))),n2.symm,n5.symm⟩) (hs.blk _ ⟨Or.inl (Or.inr (Or.inr (Or.inr (Or.inr (Or.inl rfl))))),n3.symm,n6.symm⟩) (hs.blk _ ⟨Or.inl (Or.inr (Or.inr (Or.inr (Or.inr (Or.inr rfl))))),n4.symm,n7.symm⟩),h.n5⟩,⟨fun k hk=>hs.blk k ⟨Or.inl (Or.inl hk),(h.n5.p k hk).1,(h.n5.p k hk).2.1⟩,hs.size⟩⟩
theorem TT.onR (h:TT w0 W P q hp rb m v hd rh rr rm cap cm m2 v2):∃ Q:Nat→Prop,RSV w0 W Q hd m2 rh rr rm cap cm v2∧(∀ k,P k→Q k)∧∀ (W':World) (m2':DM) (rm' cap' cm':Nat) (v2':VM),RSV w0 W' Q hd m2' rh rr rm' cap' cm' v2'→Same Q W W'→TT w0 W' P q hp rb m v hd rh rr rm' cap' cm' m2' v2'∧Same P W W':=by
 obtain ⟨F,hrs,hfr,back⟩:=h.td.ref
 obtain ⟨n1,n2,n3,n4,n5,n6,n7,n8,n9,n10⟩:=h.n5.ne
 refine ⟨fun k=>(P k∨k=hp∨k=rb)∨F k,⟨hrs.mono fun k hk=>?_,h.ra,fun k hk=>?_,⟨n8,n9,n10⟩,⟨h.n5.lo.2.2.1,h.n5.lo.2.2.2.1,h.n5.lo.2.2.2.2⟩⟩,fun k hk=>Or.inl (Or.inl hk),fun W' m2' rm' cap' cm' v2' hsv hs=>?_⟩
 ·rcases hk with ((hk | hk | hk) | hk) | hk | hk | hk
  ·exact Or.inl (Or.inl hk)
  ·exact Or.inl (Or.inr (Or.inl hk))
  ·exact Or.inl (Or.inr (Or.inr (Or.inl hk)))
  ·exact Or.inr hk
  ·exact Or.inl (Or.inr (Or.inr (Or.inr (Or.inl hk))))
  ·exact Or.inl (Or.inr (Or.inr (Or.inr (Or.inr (Or.inl hk)))))
  ·exact Or.inl (Or.inr (Or.inr (Or.inr (Or.inr (Or.inr hk)))))
 ·rcases hk with (hk | rfl | rfl) | hk
  ·exact (h.n5.p k hk).2.2
  ·exact ⟨n2,n3,n4⟩
  ·exact ⟨n5,n6,n7⟩
  ·exact ⟨fun e=>(hfr k hk).1 (Or.inr (Or.inr (Or.inr (Or.inl e)))),fun e=>(hfr k hk).1 (Or.inr (Or.inr (Or.inr (Or.inr (Or.inl e))))),fun e=>(hfr k hk).1 (Or.inr (Or.inr (Or.inr (Or.inr (Or.inr e)))))⟩
 ·have qF:∀ k,F k→k≠rh∧k≠rr∧k≠rm':=fun k hk=>hsv.q k (Or.inr hk)
  have qP:∀ k,P k→k≠rh∧k≠rr∧k≠rm':=fun k hk=>hsv.q k (Or.inl (Or.inl hk))
  have qh:=hsv.q hp (Or.inl (Or.inr (Or.inl rfl)))
  have qb:=hsv.q rb (Or.inl (Or.inr (Or.inr rfl)))
  refine ⟨⟨back _ W' m2' (hsv.ds.mono fun k hk=>?_) ⟨fun k hk=>hs.blk k (Or.inr hk),hs.size⟩ (fun k hk hf=>?_),h.at_.keep (hs.blk _ (Or.inl (Or.inr (Or.inl rfl)))) (hs.blk _ (Or.inl (Or.inr (Or.inr rfl)))),hsv.at_,⟨fun k hk=>⟨(h.n5.p k hk).1,(h.n5.p k hk).2.1,qP k hk⟩,⟨n1,qh.1,qh.2.1,qh.2.2,qb.1,qb.2.1,qb.2.2,hsv.ne⟩,⟨h.n5.lo.1,h.n5.lo.2.1,hsv.lo⟩⟩⟩,⟨fun k hk=>hs.blk k (Or.inl (Or.inl hk)),hs.size⟩⟩
  ·rcases hk with (hk | hk | hk | hk | hk | hk) | hk
   ·exact Or.inl (Or.inl (Or.inl hk))
   ·exact Or.inl (Or.inl (Or.inr (Or.inl hk)))
   ·exact Or.inl (Or.inl (Or.inr (Or.inr hk)))
   ·exact Or.inr (Or.inl hk)
   ·exact Or.inr (Or.inr (Or.inl hk))
   ·exact Or.inr (Or.inr (Or.inr hk))
   ·exact Or.inl (Or.inr hk)
  ·rcases hk with hk | hk | hk | hk | hk | hk
   ·exact (hfr k hf).1 (Or.inl hk)
   ·exact (hfr k hf).1 (Or.inr (Or.inl hk))
   ·exact (hfr k hf).1 (Or.inr (Or.inr (Or.inl hk)))
   ·exact (qF k hf).1 hk
   ·exact (qF k hf).2.1 hk
   ·exact (qF k hf).2.2 hk
end
theorem rmount_mtb {w0 W:World} {P:Nat→Prop} {q:Nat} {m:DM} (h:RS w0 W P q m) {r n g e:Nat} {S0:List Bk} {Rs:List (List Wr)} (hm:Mtb m r n g e S0 Rs) (hr:r≤1000) (hn0:0<n) (hn:n≤199) (hg:g≤1000) (fr:Int) (hrl:Rs.length≤1000000) (hmax:m.done.length≤98000) :
 Calls Tryz.prog 14 #[.pointer (some ⟨q,0,none⟩),.int .i64 r,shQ 0 0 n g fr] W fun en w'=>∃ hp rb mb cap,en=.returned (.tuple #[.pointer (some ⟨hp,0,none⟩),.int .i64 0]) ∧
  RSV w0 w' P q (homeM m (mntV m r n g e fr Rs)) hp rb mb cap 0 (homeV (mntV m r n g e fr Rs))∧Same P W w':=by
 obtain ⟨rest,h1,h2⟩:=hm.lg
 have hrel:=lay_rel Rs.flatten (List.replicate n zH) S0 (fun i=>S0[i]?) (by rw [List.length_replicate,hm.len]) (zeros_rel n S0 hm.len)
 refine rmount_any h r hr hm.fit.row n g fr hn0 hn hg e hm.epN (by have:=hm.e2;omega) (((nowRow m r).drop 2).take g) (log_len hm.fit (by omega)) (fun i b hb=>?_) (fun b hb=>?_) Rs rest hm.rs h1 h2 hrl (homeX m r g) (fun i hi=>?_) (fun i x hx hlg=>?_) hmax
 ·rw [hm.fit.rV];exact (log_at hb).2
 ·obtain ⟨i,hi⟩:=List.getElem?_of_mem hb
  exact hm.fit.blk (log_at hi).2
 ·obtain ⟨b,hb⟩:=hm.fit.get (i:=2+g+i) (by omega)
  rw [hm.fit.rV]
  unfold homeX
  rw [List.getD,hb]
  exact ⟨rfl,hm.fit.blk hb⟩
 ·obtain ⟨_,hu,_⟩:=(hrel i x hx).2 hlg
  have hi:=(List.getElem?_eq_some_iff.1 hx).1
  rw [layB_length,List.length_replicate] at hi
  obtain ⟨y,hy⟩:∃ y,S0[i]?=some y:=⟨_,List.getElem?_eq_getElem (by rw [hm.len];exact hi)⟩
  have hyo:=hm.ok y (List.mem_of_getElem? hy)
  have:=hm.n200
  rw [hm.x_at hy hu]
  exact (opens_iff hyo.len hyo.k (by omega) (by omega)).2 ⟨rfl,rfl⟩
structure Pst (m:DM) (v:VM) (n G K:Nat):Prop where
 lv:Lv m v 0 n G
 ns:m.stops=false
 ep:v.ep≤2+K
 dn:m.done.length≤80+60*K
structure Mst (m:DM) (n G K:Nat):Prop where
 mt:∃ e S0 Rs,Mtb m 0 n G e S0 Rs∧e≤2+K
 ns:m.stops=false
 dn:m.done.length≤80+60*K
section
variable {m:DM} {v:VM} {n G K:Nat}
structure PFacts (m:DM) (v:VM) (n G:Nat):Prop where
 us:v.us≤v.g
 ep:v.ep+1<4294967296
 sq:v.sq+1<4294967296
 dn:m.done.length≤90000
 vr:v.r=((0:Nat):Int)
 vn:v.n=n
 vg:v.g=G
 ok:v.Ok
theorem Pst.facts (h:Pst m v n G K) (hK:K≤200):PFacts m v n G:=by
 obtain ⟨p1,p2,p3,p4,p5,p6⟩:=h.lv.parts
 have hus:=h.lv.usg
 have hsq:=h.lv.sqg
 have:=h.ep
 have:=h.dn
 exact ⟨hus,by omega,by omega,by omega,p1,p2,p3,p4⟩
theorem Pst.mono {K':Nat} (h:Pst m v n G K) (hk:K≤K'):Pst m v n G K':=⟨h.lv,h.ns,by have:=h.ep;omega,by have:=h.dn;omega⟩
theorem Pst.change (h:Pst m v n G K) (hK:K≤200) (hG:13≤G) (hn:n≤40) {l:List Wr} (hok:WrsOk l):Pst (chM m v l) (chV v l) n G (K+1):=by
 have hep:=h.ep
 have hdn:=h.dn
 have hst:=h.lv.step hok hG (by omega) h.ns
 have hd2:=chM_done m v l
 obtain ⟨p1,p2,p3,p4,p5,p6⟩:=h.lv.parts
 have hbl:v.B.length=n:=by rw [p4.len,p2]
 exact ⟨hst.1,hst.2.2,by omega,by omega⟩
theorem Pst.sync (h:Pst m v n G K):Pst (m.doBarrier v.r) v n G (K+1):=by
 obtain ⟨S0,Rs,j,hl⟩:=h.lv
 have hr:=hl.tied.vr
 have h2:=done_doBarrier m v.r
 have hep:=h.ep
 have hdn:=h.dn
 refine ⟨⟨S0,Rs,Rs.length,?_⟩,by rw [ns_barrier];exact h.ns,by omega,by omega⟩
 rw [hr]
 exact (hl.sync (ns_of h.ns)).1
theorem Pst.tidy (h:Pst m v n G K) (hK:K≤200) (hn:n≤40):Pst (tidyM m v) (homeV v) n G (K+1):=by
 obtain ⟨p1,p2,p3,p4,p5,p6⟩:=h.lv.parts
 obtain ⟨S0,Rs,j,hl⟩:=h.lv
 have h2:=tidyM_done m v
 have hep:=h.ep
 have hdn:=h.dn
 have hns:(tidyM m v).stops=false:=by rw [ns_tidy];exact h.ns
 have ht:=(hl.tidy (by omega) (ns_of hns)).1
 have hbl:v.B.length=n:=by rw [p4.len,p2]
 exact ⟨ht.lv,hns,by rw [ht.tied.ve];omega,by omega⟩
theorem Pst.mst (h:Pst m v n G K):Mst m n G K:=by
 obtain ⟨S0,Rs,j,hl⟩:=h.lv
 exact ⟨⟨v.ep,S0,Rs,hl.idle.mtb_now,h.ep⟩,h.ns,h.dn⟩
theorem Pst.crash (h:Pst m v n G K) (ks:List Int):Mst (m.crash [ks]) n G K:=by
 obtain ⟨S0,Rs,j,hl⟩:=h.lv
 have hep:=h.ep
 have hdn:=h.dn
 have hfz:=hl.idle.fz (D:=fun _=>True) (E:=v.ep) (fun _ _ _=>trivial) (Nat.le_refl _)
 obtain ⟨hf,hp1,_⟩:=hl.idle.fit.crash [ks]
 obtain ⟨e,S1,R1,h1,h2,h3⟩:=hfz.2 _ hf hp1
 exact ⟨⟨e,S1,R1,h1,by omega⟩,rfl,by rw [crash_done];exact hdn⟩
end
theorem TD.ofR {w0 W:World} {P:Nat→Prop} {q hp rb hd:Nat} {m m2:DM} {v:VM} (h:TD w0 W (fun k=>P k∨k=hp∨k=rb) q m hd m2) (ha:VolAt W q hp rb v) (hP:∀ k,P k→k≠hp∧k≠rb) (hne:hp≠rb) (hlo:w0.heap.size≤hp∧w0.heap.size≤rb):∃ Q:Nat→Prop,RS w0 W Q hd m2∧(∀ k,P k→Q k)∧∀ (W':World) (m2':DM) (rh rr rm cap cm:Nat) (v2:VM),RSV w0 W' Q hd m2' rh rr rm cap cm v2→Same Q W W'→TT w0 W' P q hp rb m v hd rh rr rm cap cm m2' v2∧Same P W W':=by
 obtain ⟨F,hrs,hfr,back⟩:=h.ref
 refine ⟨fun k=>(P k∨k=hp∨k=rb)∨F k,hrs,fun k hk=>Or.inl (Or.inl hk),fun W' m2' rh rr rm cap cm v2 hsv hs=>?_⟩
 have qF:∀ k,F k→k≠rh∧k≠rr∧k≠rm:=fun k hk=>hsv.q k (Or.inr hk)
 have qP:∀ k,P k→k≠rh∧k≠rr∧k≠rm:=fun k hk=>hsv.q k (Or.inl (Or.inl hk))
 have qh:=hsv.q hp (Or.inl (Or.inr (Or.inl rfl)))
 have qb:=hsv.q rb (Or.inl (Or.inr (Or.inr rfl)))
 refine ⟨⟨back _ W' m2' (hsv.ds.mono fun k hk=>?_) ⟨fun k hk=>hs.blk k (Or.inr hk),hs.size⟩ (fun k hk hf=>?_),ha.keep (hs.blk _ (Or.inl (Or.inr (Or.inl rfl)))) (hs.blk _ (Or.inl (Or.inr (Or.inr rfl)))),hsv.at_,⟨fun k hk=>⟨(hP k hk).1,(hP k hk).2,qP k hk⟩,⟨hne,qh.1,qh.2.1,qh.2.2,qb.1,qb.2.1,qb.2.2,hsv.ne⟩,⟨hlo.1,hlo.2,hsv.lo⟩⟩⟩,⟨fun k hk=>hs.blk k (Or.inl (Or.inl hk)),hs.size⟩⟩
 ·rcases hk with (hk | hk | hk | hk | hk | hk) | hk
  ·exact Or.inl (Or.inl (Or.inl hk))
  ·exact Or.inl (Or.inl (Or.inr (Or.inl hk)))
  ·exact Or.inl (Or.inl (Or.inr (Or.inr hk)))
  ·exact Or.inr (Or.inl hk)
  ·exact Or.inr (Or.inr (Or.inl hk))
  ·exact Or.inr (Or.inr (Or.inr hk))
  ·exact Or.inl (Or.inr hk)
 ·rcases hk with hk | hk | hk | hk | hk | hk
  ·exact (hfr k hf).1 (Or.inl hk)
  ·exact (hfr k hf).1 (Or.inr (Or.inl hk))
  ·exact (hfr k hf).1 (Or.inr (Or.inr hk))
  ·exact (qF k hf).1 hk
  ·exact (qF k hf).2.1 hk
  ·exact (qF k hf).2.2 hk
structure Mnt (m:DM) (n G K:Nat) (m':DM) (v':VM):Prop where
 pst:Pst m' v' n G K
 prog:∀ (w0 W:World) (P:Nat→Prop) (q hd:Nat) (m2:DM),TD w0 W P q m hd m2 →
  Calls Tryz.prog 13 #[.pointer (some ⟨q,0,none⟩),.int .i64 0,shQ 0 0 n G 3] W fun en w'=>∃ hp rb,en=.returned (.tuple #[.pointer (some ⟨hp,0,none⟩),.int .i64 0])∧TD w0 w' (fun k=>P k∨k=hp∨k=rb) q m' hd m2∧VolAt w' q hp rb v'∧Same P W w'∧(∀ k,P k→k≠hp∧k≠rb)∧hp≠rb∧(w0.heap.size≤hp∧w0.heap.size≤rb)
 ref:∀ (w0 W:World) (P:Nat→Prop) (q hp rb hd:Nat) (mm:DM) (v:VM),TD w0 W (fun k=>P k∨k=hp∨k=rb) q mm hd m→VolAt W q hp rb v→(∀ k,P k→k≠hp∧k≠rb)→hp≠rb→(w0.heap.size≤hp∧w0.heap.size≤rb) →
  Calls Tryz.prog 14 #[.pointer (some ⟨hd,0,none⟩),.int .i64 0,shQ 0 0 n G 3] W fun en w'=>∃ rh rr rm cap,en=.returned (.tuple #[.pointer (some ⟨rh,0,none⟩),.int .i64 0])∧TT w0 w' P q hp rb mm v hd rh rr rm cap 0 m' v'∧Same P W w'
theorem Mst.mount {m:DM} {n G K:Nat} (h:Mst m n G K) (hK:K≤200) (hn0:0<n) (hn:n≤40) (hG:G≤1000):∃ m' v',Mnt m n G (K+1) m' v':=by
 have hdn:=h.dn
 obtain ⟨e,S0,Rs,hmt,he⟩:=h.mt
 have hfew:=hmt.few
 have htd:=hmt.tied 3 (by omega) hG
 have hns2:(homeM m (mntV m 0 n G e 3 Rs)).stops=false:=by rw [ns_home];exact h.ns
 have hlv:=hmt.live htd (by omega) (ns_of hns2)
 have hdn2:=homeM_done' m 0 n G e 3 Rs
 refine ⟨_,_,⟨hlv.1.lv,hns2,by rw [hlv.1.tied.ve];omega,by omega⟩,fun w0 W P q hd m2 ht=>?_,fun w0 W P q hp rb hd mm v ht ha hP hne hlo=>?_⟩
 ·obtain ⟨FR,hds,hfr,back⟩:=ht.prog
  refine (mount_mtb hds hmt (by omega) hG 3 (by omega) (by omega)).mono ?_
  rintro en w' ⟨hp,rb,hen,hsv,hsm,h1,h2⟩
  refine ⟨hp,rb,hen,back _ w' _ (hsv.ds.mono fun k hk=>?_) ⟨fun k hk=>hsm.blk k (Or.inr hk),hsm.size⟩ (fun k hk hf=>?_),hsv.at_,⟨fun k hk=>hsm.blk k (Or.inl hk),hsm.size⟩,fun k hk=>?_,hsv.ne,⟨hsv.lh,hsv.lr⟩⟩
  ·rcases hk with (hk | hk | hk) | hk
   ·exact Or.inl (Or.inl hk)
   ·exact Or.inr (Or.inl hk)
   ·exact Or.inr (Or.inr hk)
   ·exact Or.inl (Or.inr hk)
  ·rcases hk with hk | hk | hk
   ·exact (hfr k hf).1 hk
   ·have:=(hfr k hf).2;omega
   ·have:=(hfr k hf).2;omega
  ·have:=ht.low k hk
   exact ⟨by omega,by omega⟩
 ·obtain ⟨Q,hrs,hQ,back⟩:=ht.ofR ha hP hne hlo
  refine (rmount_mtb hrs hmt (by omega) hn0 (by omega) hG 3 (by omega) (by omega)).mono ?_
  rintro en w' ⟨rh,rr,rm,cap,hen,hrv,hsm⟩
  have h3:=back w' _ rh rr rm cap 0 _ hrv hsm
  exact ⟨rh,rr,rm,cap,hen,h3.1,h3.2⟩
section
variable {w0 W W':World} {P P':Nat→Prop} {q hp rb hd rh rr rm cap cm:Nat} {m m2:DM} {v v2:VM}
theorem TT.syncP (h:TT w0 W P q hp rb m v hd rh rr rm cap cm m2 v2) (hmax:m.done.length≤90000) :
 Calls Tryz.prog 15 #[.pointer (some ⟨hp,0,none⟩)] W fun e w'=>e=.returned (.tuple #[])∧TT w0 w' P q hp rb (m.doBarrier v.r) v hd rh rr rm cap cm m2 v2∧Same P W w':=by
 obtain ⟨P1,hsv,hP,back⟩:=h.onP
 refine (vsync_any hsv (by omega)).mono ?_
 rintro e w' ⟨he,hs,hm⟩
 exact ⟨he,back w' _ _ hs (hm.mono fun k hk=>hk.1)⟩
theorem TT.syncR (h:TT w0 W P q hp rb m v hd rh rr rm cap cm m2 v2) (hmax:m2.done.length≤90000) :
 Calls Tryz.prog 16 #[.pointer (some ⟨rh,0,none⟩)] W fun e w'=>e=.returned (.tuple #[])∧TT w0 w' P q hp rb m v hd rh rr rm cap cm (m2.doBarrier v2.r) v2∧Same P W w':=by
 obtain ⟨Q,hsv,hQ,back⟩:=h.onR
 refine (rvsync_any hsv (by omega)).mono ?_
 rintro e w' ⟨he,hs,hm⟩
 exact ⟨he,back w' _ _ _ _ _ hs hm⟩
theorem TT.tidyP (h:TT w0 W P q hp rb m v hd rh rr rm cap cm m2 v2) (hep:v.ep+1<4294967296) (hmax:m.done.length≤90000) :
 Calls Tryz.prog 17 #[.pointer (some ⟨hp,0,none⟩)] W fun e w'=>e=.returned (.tuple #[])∧TT w0 w' P q hp rb (tidyM m v) (homeV v) hd rh rr rm cap cm m2 v2∧Same P W w':=by
 obtain ⟨P1,hsv,hP,back⟩:=h.onP
 refine (vtidy_any hsv hep (by omega)).mono ?_
 rintro e w' ⟨he,hs,hm⟩
 exact ⟨he,back w' _ _ hs hm⟩
theorem TT.tidyR (h:TT w0 W P q hp rb m v hd rh rr rm cap cm m2 v2) (hep:v2.ep+1<4294967296) (hmax:m2.done.length≤90000) :
 Calls Tryz.prog 18 #[.pointer (some ⟨rh,0,none⟩)] W fun e w'=>e=.returned (.tuple #[])∧∃ rm',TT w0 w' P q hp rb m v hd rh rr rm' cap 0 (tidyM m2 v2) (homeV v2)∧Same P W w':=by
 obtain ⟨Q,hsv,hQ,back⟩:=h.onR
 refine (rvtidy_any hsv hep (by omega)).mono ?_
 rintro e w' ⟨he,mb',hs,hm⟩
 exact ⟨he,mb',back w' _ _ _ _ _ hs hm⟩
theorem TT.changeP (h:TT w0 W P q hp rb m v hd rh rr rm cap cm m2 v2) (old:∀ k,k<w0.heap.size→P k) {n G:Nat} (hf:PFacts m v n G) (hG:13≤G) (A:Option Addr) (l:List Wr) (c d:Nat) (hl:l.length=c) (hc:c≤d) (hd':d≤9223372036854775807) (hok:WrsOk l) (hy0:Wrs w0 A l) (hy:Wrs W A l) :
 Calls Tryz.prog 21 #[.pointer (some ⟨hp,0,none⟩),.slice A c d] W fun e w'=>e=.returned (.int .i64 (if ChOk v l then 0 else 1))∧TT w0 w' P q hp rb (chM m v l) (chV v l) hd rh rr rm cap cm m2 v2∧Same P W w':=by
 obtain ⟨P1,hsv,hP,back⟩:=h.onP
 have:=hf.dn
 refine (vchange_any hsv A l c d hl hc hd' hok (Wrs.old hy0 hy fun k hk=>hP k (old k hk)) hf.us (by rw [hf.vg];exact hG) hf.ep hf.sq (by omega)).mono ?_
 rintro e w' ⟨he,hs,hm⟩
 exact ⟨he,back w' _ _ hs hm⟩
theorem TT.changeR (h:TT w0 W P q hp rb m v hd rh rr rm cap cm m2 v2) (old:∀ k,k<w0.heap.size→P k) {n G:Nat} (hf:PFacts m2 v2 n G) (hG:13≤G) (A:Option Addr) (l:List Wr) (c d:Nat) (hl:l.length=c) (hc:c≤d) (hd':d≤9223372036854775807) (hok:WrsOk l) (hy0:Wrs w0 A l) (hy:Wrs W A l) (hcm:cm≤100000) :
 Calls Tryz.prog 22 #[.pointer (some ⟨rh,0,none⟩),.slice A c d] W fun e w'=>e=.returned (.int .i64 (if ChOk v2 l then 0 else 1))∧∃ rm' cm',cm'≤cm+c∧TT w0 w' P q hp rb m v hd rh rr rm' cap cm' (chM m2 v2 l) (chV v2 l)∧Same P W w':=by
 obtain ⟨Q,hsv,hQ,back⟩:=h.onR
 have:=hf.dn
 refine (rvchange_any hsv A l c d hl hc hd' hok (Wrs.old hy0 hy fun k hk=>hQ k (old k hk)) hf.us (by rw [hf.vg];exact hG) hf.ep hf.sq (by omega) hcm).mono ?_
 rintro e w' ⟨he,mb',cm',h1,hs,hm⟩
 exact ⟨he,mb',cm',h1,back w' _ _ _ _ _ hs hm⟩
theorem TT.roomP (h:TT w0 W P q hp rb m v hd rh rr rm cap cm m2 v2) (hus:v.us≤v.g) :
 Calls Tryz.prog 24 #[.pointer (some ⟨hp,0,none⟩)] W fun e w'=>e=.returned (.int .i64 ((v.g-v.us:Nat):Int))∧Below W.heap.size W w':=vroom_any h.at_ hus
theorem TT.roomR (h:TT w0 W P q hp rb m v hd rh rr rm cap cm m2 v2) (hus:v2.us≤v2.g) :
 Calls Tryz.prog 25 #[.pointer (some ⟨rh,0,none⟩)] W fun e w'=>e=.returned (.int .i64 ((v2.g-v2.us:Nat):Int))∧Below W.heap.size W w':=by
 obtain ⟨Q,hsv,_,_⟩:=h.onR
 exact rvroom_any hsv hus
theorem TT.blocks (h:TT w0 W P q hp rb m v hd rh rr rm cap cm m2 v) (hc:v.n≤cap) (hm:cap≤9223372036854775807) :
 Calls Tryz.prog 26 #[.pointer (some ⟨hp,0,none⟩),.slice (some ⟨rr,0,none⟩) v.n cap] W fun e w'=>e=.returned (.bool true)∧Below W.heap.size W w':=by
 have h1:=blocks_any h.at_ (some ⟨rr,0,none⟩) (stV v) v.n cap (stV_length h.ra.ok) hc hm (stV_oks h.ra.ok) (fun i x hx=>by
  unfold stV at hx
  rw [List.getElem?_map] at hx
  obtain ⟨y,hy,rfl⟩:=Option.map_eq_some_iff.1 hx
  exact ⟨rr,rfl,h.ra.rangeB hy⟩)
 rw [decide_eq_true rfl] at h1
 exact h1
theorem TT.capn (h:TT w0 W P q hp rb m v hd rh rr rm cap cm m2 v2):v2.n≤cap∧cap≤9223372036854775807:=by
 obtain ⟨A,c,e,h1,h2⟩:=h.ra.row.val
 injection e with _ _ e
 subst e
 exact ⟨h1,h2⟩
end
section
variable {w wr wr':World} {P:Nat→Prop} {q gs n G K:Nat} {D:List Bk→Prop} {S:List Bk} {m:DM}
end
section
variable {ops:Array Oper} {rest:List Oper} {o:Oper} {a:Act} {Q:Exit→Act→World→Prop}
end
structure Off (m m':DM) (k:Nat):Prop where
 now:nowRow m' k=nowRow m k
 dims:dims m'=dims m
 tr:traceL m' k=traceL m k
 st:m'.stops=m.stops
theorem Off.refl (m:DM) (k:Nat):Off m m k:=⟨rfl,rfl,rfl,rfl⟩
theorem Off.trans {a b c:DM} {k:Nat} (h:Off a b k) (h':Off b c k):Off a c k:=⟨h'.now.trans h.now,h'.dims.trans h.dims,h'.tr.trans h.tr,h'.st.trans h.st⟩
theorem Off.write (m:DM) {r k:Nat} (hk:k≠r) (i:Int) (b:List Int):Off m (m.doWrite r i b) k:=by
 refine ⟨?_,dims_doWrite _ _ _ _,?_,ns_write _ _ _ _⟩
 ·unfold DM.doWrite
  split
  ·rw [Int.toNat_natCast];exact setAt_other _ _ _ _ hk
  ·rfl
 ·unfold DM.doWrite
  split
  ·rw [Int.toNat_natCast,traceL_write,if_neg (fun h=>hk h.symm),List.append_nil]
  ·rfl
theorem Off.bar (m:DM) {r k:Nat} (hk:k≠r):Off m (m.doBarrier r) k:=by
 refine ⟨?_,dims_doBarrier _ _,?_,ns_barrier _ _⟩
 ·unfold DM.doBarrier
  split
  ·rfl
  ·rfl
 ·unfold DM.doBarrier
  split
  ·rw [Int.toNat_natCast,traceL_barrier,if_neg (fun h=>hk h.symm),List.append_nil]
  ·rfl
theorem Off.begin (m:DM) {r k:Nat} (hk:k≠r) (e:Nat):Off m (m.doBegin r e) k:=by
 unfold DM.doBegin
 exact ((Off.bar m hk).trans (Off.write _ hk _ _)).trans (Off.bar _ hk)
theorem Off.first {r k:Nat} (hk:k≠r) (g:Nat) (m:DM):∀ j,Off m (firstW r g m j) k
 | 0=>Off.refl _ _
 | j+1=>(Off.first hk g m j).trans (Off.write _ hk _ _)
theorem Off.make {r k:Nat} (hk:k≠r) (m:DM) (n g:Nat):Off m (makeM m r n g) k:=by
 unfold makeM;exact (Off.first hk g m n).trans (Off.begin _ hk _)
end Go.Proofs.YtamnpblijdgdaaaGreat
