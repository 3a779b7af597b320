/- For VolAll: contracts and facts, part 9. -/
import Derived.Lib.SlBytesConst
import Derived.Deep.RegionLaw
import Derived.StillTailTactics
import Derived.BigRegion
import Derived.Deep.DeepCutAuto
import Derived.Test.YtamnpblijdgdaaaGreatV03
import Derived.Test.YtamnpblijdgdaaaGreatV08
namespace Go.Proofs.YtamnpblijdgdaaaGreat
open Go.ChangeShapes Go.WideShapes Go.ChangeAt Go.RowKit
set_option linter.unusedVariables false
def sv (row:List (List Int)):List Value:=row.map fun b=>.string (strOfNums b)
theorem sv_length (row:List (List Int)):(sv row).length=row.length:=by unfold sv;simp
theorem sv_one (row:List (List Int)):∀ v∈sv row,v.oneCell'=true:=fun v hv=>by
 obtain ⟨b,_,rfl⟩:=List.mem_map.1 hv;rfl
theorem grown_of_below {w w':World} (hb:Below w.heap.size w w'):w.grownBy w' none:=⟨hb.os,hb.tape,hb.output,hb.size,fun k hk _=>hb.block k hk⟩
theorem Touch.on_below {F:Nat→Prop} {a w w':World} (h:Touch F a w) (hb:Below w.heap.size w w'):Touch F a w':=h.trans (Touch.of_below hb F)
theorem Touch.mono' {F G:Nat→Prop} {a b:World} (h:Touch F a b) (hG:∀ x,F x→G x):Touch G a b:=h.mono fun x _ hx=>hG x hx
theorem str_size (x:List Int):(strOfNums x).size=x.length:=by simp [strOfNums,ByteArray.size]
theorem tr_len (m:DM) (r:Nat):(traceL m r).length≤m.done.length:=by unfold traceL;rw [List.length_map];exact List.length_filter_le _ _
inductive RRole | none | hd | tab (t:Nat) | row (t r:Nat)
def rET (t:Nat):TypeId:=if t=2 then 115 else 63
def rER (t:Nat):TypeId:=if t=2 then 117 else 9
def rSz (t:Nat):Nat:=if t=2 then 2 else 1
abbrev RTab:=List (List (List Value))
structure RAt (w:World) (O:Nat→RRole) (hp:Nat) (L:Nat→Value) (G:Nat→RTab) (left:Int):Prop where
 hd:w.heap[hp]?=some (.cells #[L 0,L 1,L 2,L 3,.int .i64 left] 67 (0,0))
 ohd:O hp=.hd
 tab:∀ t,t<4→RowsAt w (fun k=>O k=.tab t) (fun r k=>O k=.row t r) (rET t) (rER t) (rSz t) List.flatten (L t) (G t)
section
variable {w w':World} {O:Nat→RRole} {hp:Nat} {L:Nat→Value} {G:Nat→RTab} {left:Int}
theorem RAt.keep (h:RAt w O hp L G left) (hk:∀ k,k<w.heap.size→O k≠.none→w'.heap[k]?=w.heap[k]?):RAt w' O hp L G left where
 hd:=by rw [hk hp (room_lt h.hd) (by rw [h.ohd];simp)];exact h.hd
 ohd:=h.ohd
 tab:=fun t ht=>(h.tab t ht).keep fun k hk' ho=>hk k hk' (by rcases ho with ho | ⟨r,ho⟩ <;> rw [ho] <;> simp)
theorem RAt.below (h:RAt w O hp L G left) (hb:Below w.heap.size w w'):RAt w' O hp L G left:=h.keep fun k hk _=>hb.block k hk
theorem RAt.cell (h:RAt w O hp L G left) (t:Nat) (ht:t<4):w.cell? ⟨hp,t,none⟩=some (L t):=by
 rw [blk_cell h.hd]
 match t,ht with
 | 0,_=>rfl
 | 1,_=>rfl
 | 2,_=>rfl
 | 3,_=>rfl
theorem RAt.c4 (h:RAt w O hp L G left):w.cell? ⟨hp,4,none⟩=some (.int .i64 left):=blk_cell h.hd 4
theorem RAt.free (h:RAt w O hp L G left) (i:Nat):w.frozen? ⟨hp,i,none⟩=false:=blk_free h.hd i
theorem RAt.setLeft (h:RAt w O hp L G left) (l:Int):RAt (w.setCell ⟨hp,4,none⟩ (.int .i64 l)) O hp L G l where
 hd:=heap_setCell_same' h.hd _
 ohd:=h.ohd
 tab:=fun t ht=>(h.tab t ht).keep fun k _ ho=>by
  have:k≠hp:=fun e=>by subst e;have:=h.ohd;rcases ho with ho | ⟨r,ho⟩ <;> rw [ho] at this <;> cases this
  rw [World.setCell];simp only [Array.getElem?_modify];rw [if_neg (fun e=>this e.symm)]
theorem RAt.row (h:RAt w O hp L G left) {t r:Nat} (ht:t<4) {row:List (List Value)} (hr:(G t)[r]?=some row) :
 ∃ g cap u,L t=.slice (some ⟨g,0,none⟩) (G t).length cap∧O g=.tab t∧g<w.heap.size∧w.cell? ⟨g,r,none⟩=some u∧w.frozen? ⟨g,r,none⟩=false∧RowAt w (fun k=>O k=.row t r) (rER t) (rSz t) u row.length row.flatten:=by
 obtain ⟨g,cap,u,e,h1,h2,h3,h4,h5⟩:=(h.tab t ht).row hr
 exact ⟨g,cap,u,e,h1,h2,h3,h4,h5⟩
def rOwn (O:Nat→RRole) (sz:Nat) (t r:Nat) (u:Value):Nat→RRole:=fun k=>if k<sz then O k else if u.ownBlock=some k then .row t r else .none
theorem RAt.putRow {w2:World} (h:RAt w O hp L G left) (hO:∀ k,O k≠.none→k<w.heap.size) {t r:Nat} (ht:t<4) {row row':List (List Value)} (hr:(G t)[r]?=some row) {g cap:Nat} (hL:L t=.slice (some ⟨g,0,none⟩) (G t).length cap) {u':Value}
 (hT:Touch (fun k=>O k=.row t r) w w2) (hu:RowAt w2 (fun k=>O k=.row t r∨w.heap.size≤k) (rER t) (rSz t) u' row'.length row'.flatten) :
 RAt (w2.setCell ⟨g,r,none⟩ u') (rOwn O w.heap.size t r u') hp L (fun t'=>if t'=t then (G t).set r row' else G t') left∧(∀ k,rOwn O w.heap.size t r u' k≠.none→k<w2.heap.size)∧∀ k,rOwn O w.heap.size t r u' k≠.none→O k≠.none∨w.heap.size≤k:=by
 have hg0:O g=.tab t∧g<w.heap.size:=by
  obtain ⟨g',cap',u,e,h1,h2,_⟩:=h.row ht hr
  rw [hL] at e;injection e with e;injection e with e;injection e with e;subst e;exact ⟨h1,h2⟩
 have down:∀ k,k<w.heap.size→rOwn O w.heap.size t r u' k=O k:=fun k hk=>by unfold rOwn;rw [if_pos hk]
 have other:∀ k,k≠g→(w2.setCell ⟨g,r,none⟩ u').heap[k]?=w2.heap[k]?:=fun k hk=>by
  rw [World.setCell];simp only [Array.getElem?_modify];rw [if_neg (fun e=>hk e.symm)]
 have keepO:∀ k,k<w.heap.size→O k≠.row t r→k≠g→(w2.setCell ⟨g,r,none⟩ u').heap[k]?=w.heap[k]?:=fun k hk h1 h2=>(other k h2).trans (hT.block k hk h1)
 have hlt:hp<w.heap.size:=room_lt h.hd
 have hne:hp≠g:=fun e=>by have:=h.ohd;rw [e,hg0.1] at this;cases this
 refine ⟨⟨?_,?_,fun t' ht'=>?_⟩,?_,?_⟩
 ·rw [keepO hp hlt (by rw [h.ohd];simp) hne];exact h.hd
 ·rw [down hp hlt];exact h.ohd
 ·by_cases e:t'=t
  ·subst e
   rw [if_pos rfl]
   obtain ⟨vs,h1,h2⟩:=h.tab t' ht'
   have hlen:=(List.getElem?_eq_some_iff.1 hr).1
   rw [hL] at h1 ⊢
   refine ⟨vs.set r u',?_,fun r' row2 hr'=>?_⟩
   ·rw [List.length_set]
    have h3:RowAt w2 (fun k=>O k=.tab t') (rET t') 1 (.slice (some ⟨g,0,none⟩) (G t').length cap) (G t').length vs:=h1.keep fun k hk ho=>hT.block k hk (by rw [ho];simp)
    exact (h3.stored r u').owner fun k hk ho=>by
     have:k<w.heap.size:=hO k (by rw [ho];simp)
     rw [down k this];exact ho
   ·by_cases e:r'=r
    ·subst e
     rw [List.getElem?_set_self hlen] at hr'
     injection hr' with hr'
     subst hr'
     refine ⟨u',List.getElem?_set_self (by have:=h1.len;omega),?_⟩
     have h3:=hu.keep (w':=w2.setCell ⟨g,r',none⟩ u') fun k hk ho=>other k (fun e=>by
      subst e
      rcases ho with ho | ho
      ·rw [hg0.1] at ho;cases ho
      ·have:=hg0.2;omega)
     refine ⟨h3.1,fun k hk=>?_⟩
     have hk2:=h3.2 k hk
     show rOwn O w.heap.size t' r' u' k=.row t' r'
     unfold rOwn
     by_cases hks:k<w.heap.size
     ·rw [if_pos hks]
      rcases hk2 with ho | ho
      ·exact ho
      ·omega
     ·rw [if_neg hks,if_pos hk]
    ·rw [List.getElem?_set_ne (fun h=>e h.symm)] at hr'
     obtain ⟨u2,hu2,h4⟩:=h2 r' row2 hr'
     refine ⟨u2,by rw [List.getElem?_set_ne (fun h=>e h.symm)];exact hu2,?_⟩
     have h5:RowAt (w2.setCell ⟨g,r,none⟩ u') (fun k=>O k=.row t' r') (rER t') (rSz t') u2 row2.length row2.flatten:=h4.keep fun k hk ho=>keepO k hk (by have ho':O k=.row t' r':=ho;rw [ho'];intro e2;injection e2 with _ e2;exact e e2) (fun e2=>by have ho':O k=.row t' r':=ho;subst e2;rw [hg0.1] at ho';cases ho')
     exact h5.owner fun k hk ho=>by
      have ho':O k=.row t' r':=ho
      show rOwn O w.heap.size t' r u' k=.row t' r'
      rw [down k (hO k (by rw [ho'];simp))];exact ho'
  ·rw [if_neg e]
   have h3:RowsAt (w2.setCell ⟨g,r,none⟩ u') (fun k=>O k=.tab t') (fun r k=>O k=.row t' r) (rET t') (rER t') (rSz t') List.flatten (L t') (G t'):=(h.tab t' ht').keep fun k hk ho=>keepO k hk
    (by rcases ho with ho | ⟨r2,ho⟩
        ·rw [ho];simp
        ·rw [ho];intro e2;injection e2 with e2 _;exact e e2)
    (fun e2=>by
      subst e2
      rcases ho with ho | ⟨r2,ho⟩
      ·rw [hg0.1] at ho;injection ho with ho;exact e ho.symm
      ·rw [hg0.1] at ho;cases ho)
   exact h3.owner (fun k hk ho=>by rw [down k (hO k (by rw [ho];simp))];exact ho) (fun r' k hk ho=>by rw [down k (hO k (by rw [ho];simp))];exact ho)
 ·intro k hk
  have hs:=hT.size
  unfold rOwn at hk
  by_cases hks:k<w.heap.size
  ·omega
  ·rw [if_neg hks] at hk
   by_cases hu2:u'.ownBlock=some k
   ·exact (hu.1.lt k hu2).2
   ·rw [if_neg hu2] at hk;exact absurd rfl hk
 ·intro k hk
  by_cases hks:k<w.heap.size
  ·rw [down k hks] at hk;exact Or.inl hk
  ·exact Or.inr (by omega)
theorem RAt.inRow {w2:World} (h:RAt w O hp L G left) {t r:Nat} (ht:t<4) {row row':List (List Value)} (hr:(G t)[r]?=some row) {u:Value} {g cap:Nat} (hL:L t=.slice (some ⟨g,0,none⟩) (G t).length cap) (hc:w.cell? ⟨g,r,none⟩=some u)
 (hT:Touch (fun k=>O k=.row t r) w w2) (hu:RowAt w2 (fun k=>O k=.row t r) (rER t) (rSz t) u row'.length row'.flatten) :
 RAt w2 O hp L (fun t'=>if t'=t then (G t).set r row' else G t') left where
 hd:=by rw [hT.block hp (room_lt h.hd) (by rw [h.ohd];simp)];exact h.hd
 ohd:=h.ohd
 tab:=fun t' ht'=>by
  by_cases e:t'=t
  ·subst e
   rw [if_pos rfl]
   exact (h.tab t' ht').setRow hr hL hc hu (fun k hk ho=>hT.block k hk (by rw [ho];simp)) (fun r' k hk hne ho=>hT.block k hk (by rw [ho];intro e2;injection e2 with _ e2;exact hne e2))
  ·rw [if_neg e]
   exact (h.tab t' ht').keep fun k hk ho=>hT.block k hk (by
    rcases ho with ho | ⟨r2,ho⟩
    ·rw [ho];simp
    ·rw [ho];intro e2;injection e2 with e2 _;exact e e2)
end
def Ref (w:World) (F:Nat→Prop) (hp:Nat) (G:Nat→RTab) (left:Int):Prop:=∃ O L,RAt w O hp L G left∧(∀ k,F k↔O k≠RRole.none)∧∀ k,F k→k<w.heap.size
theorem Ref.keep {w w':World} {F:Nat→Prop} {hp:Nat} {G:Nat→RTab} {left:Int} (h:Ref w F hp G left) (hk:∀ k,k<w.heap.size→F k→w'.heap[k]?=w.heap[k]?) (hs:w.heap.size≤w'.heap.size):Ref w' F hp G left:=by
 obtain ⟨O,L,h1,h2,h3⟩:=h
 exact ⟨O,L,h1.keep fun k hk' ho=>hk k hk' ((h2 k).2 ho),h2,fun k hk=>Nat.lt_of_lt_of_le (h3 k hk) hs⟩
theorem Ref.below {w w':World} {F:Nat→Prop} {hp:Nat} {G:Nat→RTab} {left:Int} (h:Ref w F hp G left) (hb:Below w.heap.size w w'):Ref w' F hp G left:=h.keep (fun k hk _=>hb.block k hk) hb.size
theorem Ref.touch {w w':World} {F E:Nat→Prop} {hp:Nat} {G:Nat→RTab} {left:Int} (h:Ref w F hp G left) (ht:Touch E w w') (hd:∀ k,F k→¬ E k):Ref w' F hp G left:=h.keep (fun k hk hf=>ht.block k hk (hd k hf)) ht.size
def RefStep (w w':World) (F:Nat→Prop) (hp:Nat) (G:Nat→RTab) (left:Int):Prop:=∃ F',Ref w' F' hp G left∧Touch F w w'∧∀ k,F' k→F k∨w.heap.size≤k
structure RM where
 sure:List (List (List Int))
 seen:List (List (List Int))
 wait:List (List (Nat × List Int))
 traces:List (List (List Int))
 left:Int
def strE (b:List Int):List Value:=[.string (strOfNums b)]
def penE (p:Nat × List Int):List Value:=[.int .i64 (p.1:Int),.string (strOfNums p.2)]
def RM.G (m:RM):Nat→RTab:=fun t=>if t=0 then m.sure.map (·.map strE) else if t=1 then m.seen.map (·.map strE) else if t=2 then m.wait.map (·.map penE) else if t=3 then m.traces.map (·.map strE) else []
theorem flat_str (row:List (List Int)):(row.map strE).flatten=sv row:=by
 unfold sv
 induction row with
 | nil=>rfl
 | cons b r ih=>rw [List.map_cons,List.flatten_cons,ih];rfl
structure RM.Ok (m:RM):Prop where
 pos:0<m.seen.length
 few:m.seen.length≤8
 sureLen:m.sure.length=m.seen.length
 waitLen:m.wait.length=m.seen.length
 trLen:m.traces.length=m.seen.length
 rows:∀ (r:Nat) (row:List (List Int)),m.seen[r]?=some row→row.length≤1000∧0<row.length∧∀ b∈row,BlkOk b
 sures:∀ (r:Nat) (row:List (List Int)),m.sure[r]?=some row→(∃ row':List (List Int),m.seen[r]?=some row'∧row.length=row'.length)∧∀ b∈row,BlkOk b
 waits:∀ (r:Nat) (row:List (Nat × List Int)),m.wait[r]?=some row→(∀ p∈row,(∃ row':List (List Int),m.seen[r]?=some row'∧p.1<row'.length)∧BlkOk p.2)
 left : -1≤m.left∧m.left≤9223372036854775807
def RM.rowLen (m:RM) (r:Nat):Nat:=(m.seen.getD r []).length
def RM.is (m:RM) (r i:Int):Bool:=decide (0≤r)&&decide (r<m.seen.length)&&(decide (0≤i)&&decide (i<m.rowLen r.toNat))
section
variable {w:World} {O:Nat→RRole} {hp:Nat} {L:Nat→Value} {m:RM} {left:Int}
theorem G1_len:(m.G 1).length=m.seen.length:=by unfold RM.G;simp
theorem G1_at {r:Nat} {row:List (List Int)} (h:m.seen[r]?=some row):(m.G 1)[r]?=some (row.map strE):=by unfold RM.G;simp [h]
theorem is_any (h:RAt w O hp L m.G left) (r i:Int) (hr:i64 r) (hi:i64 i) (hok:m.Ok) :
 Calls Tryz.prog 83 #[.pointer (some ⟨hp,0,none⟩),.int .i64 r,.int .i64 i] w fun e w'=>e=.returned (.bool (m.is r i))∧w=w':=by
 obtain ⟨A,cap,hL1,hc1,hc2⟩:=(h.tab 1 (by omega)).val
 rw [G1_len] at hL1 hc1
 have h1:=h.cell 1 (by omega)
 rw [hL1] at h1
 have hfew:=hok.few
 by_cases h0:r<0
 ·have e:m.is r i=false:=by unfold RM.is;simp;omega
  rw [e]
  have hd:decide (0≤r)=false:=decide_eq_false (by omega)
  have H1:=Lib.hid h1
  clear e h1 h hok
  go_enter Tryz.func83,Tryz.ntmps83
  go_wp2
  go_ret
  exact ⟨rfl,rfl⟩
 obtain ⟨rn,rfl⟩:∃ n:Nat,r=(n:Int):=⟨r.toNat,by omega⟩
 by_cases hrn:rn<m.seen.length
 ·obtain ⟨row,hrow⟩:∃ row,m.seen[rn]?=some row:=⟨_,List.getElem?_eq_getElem hrn⟩
  have hlen:m.rowLen rn=row.length:=by unfold RM.rowLen;rw [List.getD,hrow];rfl
  obtain ⟨g,cap',u,e1,_,_,hcu,_,hru⟩:=h.row (t:=1) (by omega) (G1_at hrow)
  rw [hL1,G1_len] at e1
  injection e1 with e1 _ e3
  subst e1
  obtain ⟨A2,cap2,rfl,_,_⟩:=hru.val
  rw [List.length_map] at hcu
  have hle:=(hok.rows rn row hrow).1
  have e:m.is rn i=(decide (0≤i)&&decide (i<row.length)):=by unfold RM.is;rw [Int.toNat_natCast,hlen];simp;omega
  rw [e]
  have hd1:decide ((0:Int)≤(rn:Int))=true:=decide_eq_true (by omega)
  have hd2:decide ((rn:Int)<(m.seen.length:Int))=true:=decide_eq_true (by omega)
  have hrni:(rn:Int)<(m.seen.length:Int):=by omega
  generalize m.seen.length=n at *
  generalize row.length=rl at *
  by_cases hi0:0≤i
  ·have hd3:decide (0≤i)=true:=decide_eq_true hi0
   clear e e3 hru h hok hrow hlen
   go_enter Tryz.func83,Tryz.ntmps83
   go_wp2
   go_ret
   exact ⟨by first | rfl | simp [hi0],rfl⟩
  ·have hd3:decide (0≤i)=false:=decide_eq_false hi0
   clear e e3 hru h hok hrow hlen
   go_enter Tryz.func83,Tryz.ntmps83
   go_wp2
   go_ret
   exact ⟨by first | rfl | simp [hi0],rfl⟩
 ·have e:m.is rn i=false:=by unfold RM.is;simp;omega
  rw [e]
  have hd1:decide ((0:Int)≤(rn:Int))=true:=decide_eq_true (by omega)
  have hd2:decide ((rn:Int)<(m.seen.length:Int))=false:=decide_eq_false (by omega)
  clear e h hok h0
  generalize m.seen.length=n at *
  go_enter Tryz.func83,Tryz.ntmps83
  go_wp2
  go_ret
  exact ⟨rfl,rfl⟩
end
theorem nums_at (b:List Int) (hb:AllB b) (j:Nat) (x:Int) (hx:b[j]?=some x) (cap:Nat):(bytesRow (strOfNums b) cap)[j]?=some (.int .u8 x):=by
 have hl:=(List.getElem?_eq_some_iff.1 hx).1
 have hj:j<(strOfNums b).data.size:=by
  show j<(strOfNums b).size
  rw [str_size];exact hl
 rw [bytesRow_at _ _ _ hj]
 have hxb:=hb x (List.mem_of_getElem? hx)
 have e:(strOfNums b).data.toList=b.map fun n=>UInt8.ofNat n.toNat:=by rw [← ByteArray.toList_eq];exact strOfNums_toList b
 have e2:(strOfNums b).data[j]=UInt8.ofNat x.toNat:=by
  have h1:(strOfNums b).data.toList[j]?=some (UInt8.ofNat x.toNat):=by rw [e,List.getElem?_map,hx];rfl
  rw [Array.getElem?_toList,Array.getElem?_eq_getElem hj] at h1
  injection h1
 rw [e2]
 congr 2
 rw [UInt8.toNat_ofNat']
 omega
section
variable {w:World} {O:Nat→RRole} {hp:Nat} {L:Nat→Value} {m:RM}
theorem rread_no (h:RAt w O hp L m.G m.left) (r i:Int) (hr:i64 r) (hi:i64 i) (hok:m.Ok) (hno:m.is r i=false) :
 Calls Tryz.prog 48 #[.pointer (some ⟨hp,0,none⟩),.int .i64 r,.int .i64 i] w fun e w'=>e=.returned (.tuple #[.slice none 0 0,.bool false])∧w=w':=by
 have HI:=Lib.hid (is_any h r i hr hi hok)
 rw [hno] at HI
 clear h hno
 go_enter Tryz.func48,Tryz.ntmps48
 go_wp2_with fail
 refine HI.out.mono ?_;rintro e w' ⟨rfl,rfl⟩
 go_wp2_with fail
 first | go_ret | go_ret2
 exact ⟨rfl,rfl⟩
theorem rread_yes (h:RAt w O hp L m.G m.left) (r i:Nat) (hok:m.Ok) {row:List (List Int)} {b:List Int} (hrow:m.seen[r]?=some row) (hb:row[i]?=some b) :
 Calls Tryz.prog 48 #[.pointer (some ⟨hp,0,none⟩),.int .i64 r,.int .i64 i] w fun e w'=>(∃ g c,e=.returned (.tuple #[.slice (some ⟨g,0,none⟩) b.length c,.bool true])∧Byt w' (some ⟨g,0,none⟩) b)∧Below w.heap.size w w':=by
 have hrl:=(List.getElem?_eq_some_iff.1 hrow).1
 have hil:=(List.getElem?_eq_some_iff.1 hb).1
 have hle:=(hok.rows r row hrow).1
 have hbk:=(hok.rows r row hrow).2.2 b (List.mem_of_getElem? hb)
 have hfew:=hok.few
 have his:m.is r i=true:=by
  unfold RM.is RM.rowLen
  rw [Int.toNat_natCast,List.getD,hrow]
  simp;omega
 have HI:=Lib.hid (is_any h r i (by constructor <;> omega) (by constructor <;> omega) hok)
 rw [his] at HI
 obtain ⟨g,cap,u,hL1,_,_,hcu,_,hru⟩:=h.row (t:=1) (by omega) (G1_at hrow)
 rw [G1_len] at hL1
 obtain ⟨g2,cap2,rfl,_,_,_,_,hcells,_⟩:=hru.pos (by rw [List.length_map];omega)
 rw [List.length_map] at hcu hcells
 rw [flat_str] at hcells
 have hc1:=h.cell 1 (by omega)
 rw [hL1] at hc1
 have hc2:w.cell? ⟨g2,i,none⟩=some (.string (strOfNums b)):=by
  rw [hcells i (by show i<row.length*1;omega)];unfold sv;rw [List.getElem?_map,hb];rfl
 have hri:(r:Int)<m.seen.length:=by omega
 have hii:(i:Int)<row.length:=by omega
 have hcv:∀ w:World,(convert 9 48 (.string (strOfNums b))).run Tryz.prog w=.ok (.slice (some ⟨w.heap.size,0,none⟩) b.length (grownCap w b.length 0 5)) (w.drew.alloc (.cells (bytesRow (strOfNums b) (grownCap w b.length 0 5)) 5 ((bytesRow (strOfNums b) (grownCap w b.length 0 5)).size,(bytesRow (strOfNums b) (grownCap w b.length 0 5)).size+1))):=fun w=>by
  have:=run_bytes_of_string (P:=Tryz.prog) w 9 48 5 (strOfNums b) Tryz.underlying9 Tryz.underlying48 Tryz.underlying5
  rwa [str_size] at this
 have HF:Hid (∀ c fr,Byt (w.drew.alloc (.cells (bytesRow (strOfNums b) c) 5 fr)) (some ⟨w.heap.size,0,none⟩) b):=Lib.hid fun c fr j x hx=>⟨_,rfl,by
  rw [add_at]
  have hn:(w.drew.alloc (.cells (bytesRow (strOfNums b) c) 5 fr)).heap[w.heap.size]?=some (.cells (bytesRow (strOfNums b) c) 5 fr):=heap_alloc_new w.drew _
  rw [blk_cell hn]
  exact nums_at b hbk.2 j x hx c⟩
 generalize hcc:grownCap w b.length 0 5=cc at *
 have hcv0:=hcv w
 rw [hcc] at hcv0
 clear hcv hcc his hru hcells h hok hrow hb hL1 hle hbk
 generalize m.seen.length=n at *
 generalize row.length=rl at *
 generalize b.length=bl at *
 go_enter Tryz.func48,Tryz.ntmps48
 go_wp2_with fail
 refine HI.out.mono ?_;rintro e w' ⟨rfl,rfl⟩
 go_wp2_with fail
 first | go_ret | go_ret2
 exact ⟨⟨_,_,rfl,HF.out _ _⟩,(bdn (Below.refl _ _) 1).alloc (Nat.le_refl _) _⟩
end
theorem infoStr:(Tryz.prog.info? 9).map (fun i=>(i.zero,i.size,i.bytes))=some (some (.string .empty),1,16):=by kernel_rfl
theorem infoPen:(Tryz.prog.info? 117).map (fun i=>(i.zero,i.size,i.bytes))=some (some (.agg #[.int .i64 0,.string .empty]),2,24):=by kernel_rfl
theorem step_app_run {P:Program} {ops:Array Oper} {o:Oper} {a:Act} {w:World} {K:Act→World→Prop} {Q:Exit→Act→World→Prop} {E:Prop} (hg:o.guard=none) (s x:Operand) (t1 t2:TypeId)
 (hop:o.op=Op.call { callee:=Callee.builtin Builtin.append,args:=#[s,x],argTypes:=#[t1,t2] }) (v y v':Value) (w':World) (hs:a.eval s=v) (hx:a.eval x=y)
 (hrun:(Builtin.append_ #[t1,t2] o.type #[v,y]).run P w=.ok v' w') (hK:K (a.put o.dst v') w') :
 if Region.wanted o (yielded ops a.tmps)=true then Oper.wp P o a w K Q else E:=by
 have hw:Region.wanted o (yielded ops a.tmps)=true:=by simp [Region.wanted,hg]
 rw [if_pos hw]
 unfold Oper.wp
 simp only [execOp,hop,resolve,invoke,builtin,Sem.run_bind,Sem.run_pure,Result.andThen_ok,List.map_toArray,List.map_cons,List.map_nil,hs,hx,hrun]
 exact hK
def hiX (i:Nat) (j:Nat):Nat:=if j=0 then i else if j=1 then i/256 else 0
def hiC (i:Nat) (j:Nat):Array Value:=#[.int .u8 ((if j=2 then i/256 else 0:Nat):Int),.int .u8 ((if j=0 then 0 else i%256:Nat):Int)]
theorem high_any (i:Nat) (hi:i<65536) (w:World) :
 Calls Tryz.prog 81 #[.int .u64 i,.int .i64 2] w fun e w'=>(∃ g,e=.returned (.slice (some ⟨g,0,none⟩) 2 2)∧w.heap.size≤g∧w'.heap[g]?=some (.cells #[.int .u8 ((i/256:Nat):Int),.int .u8 ((i%256:Nat):Int)] 5 (0,0)))∧Below w.heap.size w w':=by
 obtain ⟨i0,hi0,hz0,hz1,hz2⟩:=info_parts info5
 have hmk:=fun w:World=>run_make (P:=Tryz.prog) w 48 5 i0 _ Tryz.underlying48 hi0 hz0 .i64 .i64 2 2 (by omega) (by omega) (by rw [hz2];omega) (by omega)
 generalize hC:madeCells (Value.int .u8 0).cells ((2:Int).toNat*i0.size)=C0 at hmk
 have hC2:C0=hiC i 0:=by
  rw [← hC,hz1,show (2:Int).toNat*1=2 from rfl,← Array.toArray_toList (xs:=madeCells _ _),dmade_u8 2]
  simp [Bs,hiC]
 subst hC2
 clear hC hi0 hz0 hz1 hz2
 go_enter Tryz.func81,Tryz.ntmps81
 go_wp2_with fail
 have hblk0:=heap_alloc_new w (Obj.cells (hiC i 0) 5)
 have hbel0:Below w.heap.size w (w.alloc (Obj.cells (hiC i 0) 5)):=(Below.refl _ _).alloc (Nat.le_refl _) _
 go_loopw [0,6] (fun x t wr=>∃ j:Nat,j≤2∧t=.int .i64 (1-(j:Int))∧x=.int .u64 (hiX i j)∧wr.heap[w.heap.size]?=some (.cells (hiC i j) 5 (0,0))∧Below w.heap.size w wr) (fun _ t _=>(2+intOf t).toNat)
 case atStart=>exact ⟨0,by omega,rfl,rfl,hblk0,hbel0⟩
 case round =>
  obtain ⟨w5,rfl⟩:∃ w5,w5=wr:=⟨wr,rfl⟩
  obtain ⟨j,hj,rfl,rfl,hblk,hb⟩:=hrel
  clear hblk0 hbel0 hmk
  have HB:=Lib.hid hb
  clear hb
  rcases (by omega:j=0∨j=1∨j=2) with rfl | rfl | rfl
  ·have c1:w5.cell? ⟨w.heap.size,1,none⟩=some (.int .u8 0):=(blk_cell hblk 1).trans rfl
   have f1:w5.frozen? ⟨w.heap.size,1,none⟩=false:=blk_free hblk 1
   have hm:Int.tmod (i:Int) 256=((i%256:Nat):Int):=by rw [Int.tmod_eq_emod_of_nonneg (by omega)];omega
   have hq:Int.tdiv (i:Int) 256=((i/256:Nat):Int):=by rw [Int.tdiv_eq_ediv_of_nonneg (by omega)];omega
   have hw1:IntKind.u8.wrap ((i%256:Nat):Int)=((i%256:Nat):Int):=IntWalk.u8_in _ (by omega)
   have hw2:IntKind.u64.wrap ((i/256:Nat):Int)=((i/256:Nat):Int):=IntWalk.u64_in _ (by omega)
   have hw3:IntKind.u64.wrap ((i%256:Nat):Int)=((i%256:Nat):Int):=IntWalk.u64_in _ (by omega)
   have e0:((hiX i 0:Nat):Int)=(i:Int):=rfl
   have HN:Hid ((w5.setCell ⟨w.heap.size,1,none⟩ (.int .u8 ((i%256:Nat):Int))).heap[w.heap.size]?=some (.cells (hiC i 1) 5 (0,0))):=heap_setCell_same' hblk _
   have HB2:Hid (Below w.heap.size w (w5.setCell ⟨w.heap.size,1,none⟩ (.int .u8 ((i%256:Nat):Int)))):=HB.out.setCell (Nat.le_refl _) _
   clear hblk
   generalize hr:i%256=rr at *
   generalize hqq:i/256=qq at *
   rw [e0]
   clear e0
   go_wp2
   go_roundw
   case rel=>exact ⟨1,by omega,rfl,by unfold hiX;rw [if_neg (by omega),if_pos rfl,hqq],HN.out,HB2.out⟩
   case measure=>simp [intOf]
  ·have c0:w5.cell? ⟨w.heap.size,0,none⟩=some (.int .u8 0):=(blk_cell hblk 0).trans rfl
   have f0:w5.frozen? ⟨w.heap.size,0,none⟩=false:=blk_free hblk 0
   have e1:((hiX i 1:Nat):Int)=((i/256:Nat):Int):=rfl
   have hm:Int.tmod ((i/256:Nat):Int) 256=((i/256:Nat):Int):=by rw [Int.tmod_eq_emod_of_nonneg (by omega)];omega
   have hq:Int.tdiv ((i/256:Nat):Int) 256=0:=by rw [Int.tdiv_eq_ediv_of_nonneg (by omega)];omega
   have hw1:IntKind.u8.wrap ((i/256:Nat):Int)=((i/256:Nat):Int):=IntWalk.u8_in _ (by omega)
   have hw2:IntKind.u64.wrap ((i/256:Nat):Int)=((i/256:Nat):Int):=IntWalk.u64_in _ (by omega)
   have hw3:IntKind.u64.wrap 0=0:=rfl
   have HN:Hid ((w5.setCell ⟨w.heap.size,0,none⟩ (.int .u8 ((i/256:Nat):Int))).heap[w.heap.size]?=some (.cells (hiC i 2) 5 (0,0))):=heap_setCell_same' hblk _
   have HB2:Hid (Below w.heap.size w (w5.setCell ⟨w.heap.size,0,none⟩ (.int .u8 ((i/256:Nat):Int)))):=HB.out.setCell (Nat.le_refl _) _
   clear hblk
   rw [e1]
   clear e1
   generalize hqq:i/256=qq at *
   go_wp2
   go_roundw
   case rel=>exact ⟨2,by omega,rfl,rfl,HN.out,HB2.out⟩
   case measure=>simp [intOf]
  ·have HK:Hid (w5.heap[w.heap.size]?=some (.cells (hiC i 2) 5 (0,0))):=hblk
   clear hblk
   go_wp2
   go_ret
   exact ⟨⟨_,rfl,Nat.le_refl _,HK.out⟩,HB.out⟩
def RM.write (m:RM) (r i:Nat) (b:List Int):RM :=
 { sure:=m.sure,seen:=setAt m.seen r i b,wait:=m.wait.set r (m.wait.getD r []++[(i,b)]),traces:=m.traces.set r (m.traces.getD r []++[((i/256:Nat):Int) :: ((i%256:Nat):Int) :: b]),left:=max (m.left-1) (-1) }
def RApart (w:World) (O:Nat→RRole) (A:Option Addr) (bs:List Int):Prop:=∀ W,Touch (fun k=>O k≠.none) w W→Byt W A bs
theorem str_append (a b:List Int):strOfNums a++strOfNums b=strOfNums (a++b):=by
 apply ByteArray.ext
 apply Array.ext'
 have e:∀ x:List Int,(strOfNums x).data.toList=x.map fun n=>UInt8.ofNat n.toNat:=fun x=>by rw [← ByteArray.toList_eq];exact strOfNums_toList x
 rw [ByteArray.data_append,Array.toList_append,e,e,e,List.map_append]
section
variable {w:World} {O:Nat→RRole} {hp:Nat} {L:Nat→Value} {m:RM}
theorem rwrite_no (h:RAt w O hp L m.G m.left) (r i:Int) (hr:i64 r) (hi:i64 i) (hok:m.Ok) (A:Option Addr) (n c:Nat) (hno:(m.is r i&&decide (n=64))=false) (hn:n≤1000000) :
 Calls Tryz.prog 40 #[.pointer (some ⟨hp,0,none⟩),.int .i64 r,.int .i64 i,.slice A n c] w fun e w'=>e=.returned (.bool false)∧w=w':=by
 have HI:=Lib.hid (is_any h r i hr hi hok)
 clear h
 cases his:m.is r i
 ·rw [his] at HI
  clear his hno
  go_enter Tryz.func40,Tryz.ntmps40
  go_wp2_with fail
  refine HI.out.mono ?_;rintro e w' ⟨rfl,rfl⟩
  go_wp2_with fail
  go_ret
  exact ⟨rfl,rfl⟩
 ·rw [his] at HI hno
  have hne:n≠64:=by simpa using hno
  have hb:((n:Int) != 64)=true:=by simp;omega
  clear his hno hne
  go_enter Tryz.func40,Tryz.ntmps40
  go_wp2_with fail
  refine HI.out.mono ?_;rintro e w' ⟨rfl,rfl⟩
  go_wp2_with fail
  go_ret
  exact ⟨rfl,rfl⟩
theorem rwrite_stopped (h:RAt w O hp L m.G m.left) (r i:Int) (hr:i64 r) (hi:i64 i) (hok:m.Ok) (A:Option Addr) (c:Nat) (hyes:m.is r i=true) (h0:m.left=0) :
 Calls Tryz.prog 40 #[.pointer (some ⟨hp,0,none⟩),.int .i64 r,.int .i64 i,.slice A 64 c] w fun e w'=>e=.returned (.bool true)∧w=w':=by
 have HI:=Lib.hid (is_any h r i hr hi hok)
 rw [hyes] at HI
 have c4:=h.c4
 rw [h0] at c4
 clear h h0 hyes
 go_enter Tryz.func40,Tryz.ntmps40
 go_wp2_with fail
 refine HI.out.mono ?_;rintro e w' ⟨rfl,rfl⟩
 go_wp2_with fail
 go_ret
 exact ⟨rfl,rfl⟩
end
def VU7 (hp g r ix n c B:Nat) (A:Option Addr) (s:ByteArray) (Lt u:Value) (Own:Nat→Prop) (xs:List Value) (i:Nat) (v:Value) (w:World):Prop :=
 match i with
 | 0 | 1 | 5 | 6=>v=.pointer (some ⟨hp,0,none⟩)
 | 2 | 7=>v=.pointer (some ⟨hp,2,none⟩)
 | 3 | 8=>v=Lt
 | 4 | 9=>v=.int .i64 r
 | 10 | 18=>v=.pointer (some ⟨g,r,none⟩)
 | 11=>v=u
 | 12=>v=.int .i64 ix
 | 13=>v=.slice A 64 c
 | 14=>v=.string s
 | 15=>v=.agg #[.int .i64 ix,.string s]
 | 16=>∃ p,v=.slice (some ⟨p,0,none⟩) 1 1∧B≤p∧w.heap[p]?=some (.cells #[.int .i64 ix,.string s] 117 (0,0))
 | 17=>RowAt w (fun k=>Own k∨B≤k) 117 2 v (n+1) (xs++[.int .i64 ix,.string s])
 | _=>True
def SU (q:Nat) (u:Value) (i:Nat) (w w':World):Prop:=if i=q then w.grownBy w' u.ownBlock else w.grownBy w' none
theorem VU7.on {hp g r ix n c B:Nat} {A:Option Addr} {s:ByteArray} {Lt u:Value} {Own:Nat→Prop} {xs:List Value} (hB:∀ k,u.ownBlock=some k→k<B) {i k:Nat} {v:Value} {w w':World} (hik:i≠k) (h:VU7 hp g r ix n c B A s Lt u Own xs k v w) (hg:SU 17 u i w w'):VU7 hp g r ix n c B A s Lt u Own xs k v w':=by
 unfold SU at hg
 unfold VU7 at *
 split <;> try exact h
 ·obtain ⟨p,e,h1,h2⟩:=h
  refine ⟨p,e,h1,?_⟩
  split at hg
  ·rw [hg.block p (room_lt h2) (fun e=>by have:=hB p e.symm;omega)];exact h2
  ·rw [hg.block p (room_lt h2) (by simp)];exact h2
 ·rw [if_neg hik] at hg
  exact h.keep fun k hk _=>hg.block k hk (by simp)
 ·trivial
def VU8 (hp g r ix n c B:Nat) (A:Option Addr) (s1 s:ByteArray) (Lt u:Value) (Own:Nat→Prop) (xs:List Value) (i:Nat) (v:Value) (w:World):Prop :=
 match i with
 | 0 | 1 | 5 | 6=>v=.pointer (some ⟨hp,0,none⟩)
 | 2 | 7=>v=.pointer (some ⟨hp,3,none⟩)
 | 3 | 8=>v=Lt
 | 4 | 9=>v=.int .i64 r
 | 10 | 21=>v=.pointer (some ⟨g,r,none⟩)
 | 11=>v=u
 | 12=>v=.int .i64 ix
 | 13=>v=.int .u64 ix
 | 15=>v=.string s1
 | 16=>v=.slice A 64 c
 | 17=>v=.string s
 | 18=>v=.string (s1++s)
 | 14=>∃ q,v=.slice (some ⟨q,0,none⟩) 2 2∧B≤q∧w.heap[q]?=some (.cells #[.int .u8 ((ix/256:Nat):Int),.int .u8 ((ix%256:Nat):Int)] 5 (0,0))
 | 19=>∃ p,v=.slice (some ⟨p,0,none⟩) 1 1∧B≤p∧w.heap[p]?=some (.cells #[.string (s1++s)] 9 (0,0))
 | 20=>RowAt w (fun k=>Own k∨B≤k) 9 1 v (n+1) (xs++[.string (s1++s)])
 | _=>True
theorem VU8.on {hp g r ix n c B:Nat} {A:Option Addr} {s1 s:ByteArray} {Lt u:Value} {Own:Nat→Prop} {xs:List Value} (hB:∀ k,u.ownBlock=some k→k<B) {i k:Nat} {v:Value} {w w':World} (hik:i≠k) (h:VU8 hp g r ix n c B A s1 s Lt u Own xs k v w) (hg:SU 20 u i w w'):VU8 hp g r ix n c B A s1 s Lt u Own xs k v w':=by
 unfold SU at hg
 unfold VU8 at *
 split <;> try exact h
 ·obtain ⟨p,e,h1,h2⟩:=h
  refine ⟨p,e,h1,?_⟩
  split at hg
  ·rw [hg.block p (room_lt h2) (fun e=>by have:=hB p e.symm;omega)];exact h2
  ·rw [hg.block p (room_lt h2) (by simp)];exact h2
 ·obtain ⟨p,e,h1,h2⟩:=h
  refine ⟨p,e,h1,?_⟩
  split at hg
  ·rw [hg.block p (room_lt h2) (fun e=>by have:=hB p e.symm;omega)];exact h2
  ·rw [hg.block p (room_lt h2) (by simp)];exact h2
 ·rw [if_neg hik] at hg
  exact h.keep fun k hk _=>hg.block k hk (by simp)
 ·trivial
section
variable {w:World} {O:Nat→RRole} {hp:Nat} {L:Nat→Value} {m:RM}
theorem G2_len (hok:m.Ok):(m.G 2).length=m.seen.length:=by unfold RM.G;simp [hok.waitLen]
theorem G3_len (hok:m.Ok):(m.G 3).length=m.seen.length:=by unfold RM.G;simp [hok.trLen]
theorem G0_len (hok:m.Ok):(m.G 0).length=m.seen.length:=by unfold RM.G;simp [hok.sureLen]
theorem G2_at {r:Nat} {row:List (Nat × List Int)} (h:m.wait[r]?=some row):(m.G 2)[r]?=some (row.map penE):=by unfold RM.G;simp [h]
theorem G3_at {r:Nat} {row:List (List Int)} (h:m.traces[r]?=some row):(m.G 3)[r]?=some (row.map strE):=by unfold RM.G;simp [h]
theorem G0_at {r:Nat} {row:List (List Int)} (h:m.sure[r]?=some row):(m.G 0)[r]?=some (row.map strE):=by unfold RM.G;simp [h]
theorem G_seen (m:RM) (r:Nat) (x:List (List Int)):(fun t'=>if t'=1 then (m.G 1).set r (x.map strE) else m.G t')=({ m with seen:=m.seen.set r x }:RM).G:=by
 funext t';unfold RM.G
 by_cases e0:t'=0
 ·subst e0;simp
 ·by_cases e1:t'=1
  ·subst e1;simp [List.map_set]
  ·simp [e0,e1]
theorem G_sure (m:RM) (r:Nat) (x:List (List Int)):(fun t'=>if t'=0 then (m.G 0).set r (x.map strE) else m.G t')=({ m with sure:=m.sure.set r x }:RM).G:=by
 funext t';unfold RM.G
 by_cases e0:t'=0
 ·subst e0;simp [List.map_set]
 ·simp [e0]
theorem G_wait (m:RM) (r:Nat) (x:List (Nat × List Int)):(fun t'=>if t'=2 then (m.G 2).set r (x.map penE) else m.G t')=({ m with wait:=m.wait.set r x }:RM).G:=by
 funext t';unfold RM.G
 by_cases e0:t'=2
 ·subst e0;simp [List.map_set]
 ·simp [e0]
theorem G_tr (m:RM) (r:Nat) (x:List (List Int)):(fun t'=>if t'=3 then (m.G 3).set r (x.map strE) else m.G t')=({ m with traces:=m.traces.set r x }:RM).G:=by
 funext t';unfold RM.G
 by_cases e0:t'=0
 ·subst e0;simp
 ·by_cases e1:t'=1
  ·subst e1;simp
  ·by_cases e2:t'=2
   ·subst e2;simp
   ·by_cases e3:t'=3
    ·subst e3;simp [List.map_set]
    ·simp [e0,e1,e2,e3]
theorem RAt.stored1 {G:Nat→RTab} {left:Int} (h:RAt w O hp L G left) {t r i:Nat} (ht:t<4) (h2:t≠2) {row:List (List Int)} (hr:(G t)[r]?=some (row.map strE)) (hi:i<row.length) {g cap:Nat} (hL:L t=.slice (some ⟨g,0,none⟩) (G t).length cap) (b:List Int) :
 ∃ q c,w.cell? ⟨g,r,none⟩=some (.slice (some ⟨q,0,none⟩) row.length c)∧(∃ v,w.cell? ⟨q,i,none⟩=some v)∧w.frozen? ⟨q,i,none⟩=false∧O q=.row t r ∧
  RAt (w.setCell ⟨q,i,none⟩ (.string (strOfNums b))) O hp L (fun t'=>if t'=t then (G t).set r ((row.set i b).map strE) else G t') left:=by
 obtain ⟨g',cap',u,e1,_,_,hcu,_,hru⟩:=h.row ht hr
 rw [hL] at e1;injection e1 with e1;injection e1 with e1;injection e1 with e1;subst e1
 have hs:rSz t=1:=by unfold rSz;rw [if_neg h2]
 obtain ⟨q,c,rfl,hoq,hq,_,_,hcells,hfr⟩:=hru.pos (by rw [List.length_map];omega)
 rw [List.length_map] at hcu hru
 rw [List.length_map,hs,Nat.mul_one] at hcells
 rw [flat_str] at hcells hru
 refine ⟨q,c,hcu,⟨_,by rw [hcells i hi];exact List.getElem?_eq_getElem (by rw [sv_length];exact hi)⟩,hfr i,hoq,?_⟩
 have hT:Touch (fun k=>O k=.row t r) w (w.setCell ⟨q,i,none⟩ (.string (strOfNums b))):=(Touch.refl (fun k=>O k=.row t r) w).setCell (p:=⟨q,i,none⟩) hoq _
 rw [hs] at hru
 have hst:=hru.stored i (.string (strOfNums b))
 refine h.inRow ht hr hL hcu hT ?_
 rw [hs,List.length_map,List.length_set,flat_str]
 unfold sv
 rw [List.map_set]
 exact hst
set_option maxRecDepth 100000 in
set_option maxHeartbeats 3200000 in
theorem rwrite_yes (h:RAt w O hp L m.G m.left) (hO:∀ k,O k≠.none→k<w.heap.size) (r i:Nat) (hok:m.Ok) (A:Option Addr) (c:Nat) (b:List Int) (hb:BlkOk b) (hA:RApart w O A b) {row:List (List Int)} (hrow:m.seen[r]?=some row) (hil:i<row.length) (hl0:m.left≠0) (hmax:(m.wait.getD r []).length≤100000∧(m.traces.getD r []).length≤100000) :
 Calls Tryz.prog 40 #[.pointer (some ⟨hp,0,none⟩),.int .i64 r,.int .i64 i,.slice A 64 c] w fun e w'=>e=.returned (.bool true)∧∃ O' ,RAt w' O' hp L (m.write r i b).G (m.write r i b).left∧(∀ k,O' k≠.none→k<w'.heap.size)∧(∀ k,O' k≠.none→O k≠.none∨w.heap.size≤k)∧Touch (fun k=>O k≠.none) w w':=by
 have hrl:=(List.getElem?_eq_some_iff.1 hrow).1
 have hfew:=hok.few
 have hle:=(hok.rows r row hrow).1
 have his:m.is r i=true:=by
  unfold RM.is RM.rowLen
  rw [Int.toNat_natCast,List.getD,hrow]
  simp;omega
 have HI:=Lib.hid (is_any h r i (by constructor <;> omega) (by constructor <;> omega) hok)
 rw [his] at HI
 obtain ⟨wrow,hwr⟩:∃ x,m.wait[r]?=some x:=⟨_,List.getElem?_eq_getElem (by rw [hok.waitLen];exact hrl)⟩
 obtain ⟨trow,htr⟩:∃ x,m.traces[r]?=some x:=⟨_,List.getElem?_eq_getElem (by rw [hok.trLen];exact hrl)⟩
 have hleft:=hok.left
 have hmx:∃ l:Int,l=max (m.left-1) (-1):=⟨_,rfl⟩
 obtain ⟨lf,hlf⟩:=hmx
 have c4:=h.c4
 have f4:=h.free 4
 have hw4:IntKind.i64.wrap (m.left-1)=m.left-1:=IntWalk.i64_in _ (by omega)
 have hne0:(m.left==0)=false:=by simpa using hl0
 have H1:=Lib.hid (h.setLeft lf)
 have HT1:Hid (Touch (fun k=>O k≠.none) w (w.setCell ⟨hp,4,none⟩ (.int .i64 lf))):=Lib.hid ((Touch.refl (fun k=>O k≠.none) w).setCell (p:=⟨hp,4,none⟩) (by show O hp≠.none;rw [h.ohd];simp) _)
 have HA:=Lib.hid hA
 have HO:=Lib.hid hO
 have HB:=Lib.hid hb
 have HW:=Lib.hid hwr
 have HTR:=Lib.hid htr
 have HROW:=Lib.hid hrow
 have HOK:=Lib.hid hok
 have hri:(r:Int)<m.seen.length:=by omega
 clear hA hO hb h his
 have hlfd:(if m.left-1 < -1 then (-1:Int) else m.left-1)=lf:=by rw [hlf];split <;> omega
 have HLF:=Lib.hid hlf
 clear hlf
 obtain ⟨hp',rfl⟩:∃ x,x=hp:=⟨hp,rfl⟩
 go_enter Tryz.func40,Tryz.ntmps40
 go_wp2_with fail
 refine HI.out.mono ?_;rintro e w' ⟨rfl,rfl⟩
 have hLT:=Lib.hid hlfd
 go_upto_region 5 with fail
 go_cut [] (fun wx=>wx=w.setCell ⟨hp',4,none⟩ (.int .i64 lf))
 case first =>
  by_cases hlt:m.left-1 < -1
  ·have hd1:decide (m.left-1 < -1)=true:=decide_eq_true hlt
   have hd2:decide (-1<m.left-1)=false:=decide_eq_false (by omega)
   have e1:lf = -1:=by rw [← hlfd,if_pos hlt]
   clear hlfd
   subst e1
   go_wp2
   go_meet
   case rel=>rfl
  ·have hd1:decide (m.left-1 < -1)=false:=decide_eq_false hlt
   have e1:m.left-1=lf:=by rw [← hlfd,if_neg hlt]
   clear hlfd
   subst e1
   go_wp2
   go_meet
   case rel=>rfl
 case rest =>
  subst hcut
  clear hlfd hw4 c4 f4 hne0 hl0 hleft
  generalize w.setCell ⟨hp',4,none⟩ (.int .i64 lf)=w1 at *
  have h1:=H1.out
  obtain ⟨g1,cap1,u1,hL1,ho1,hg1,hcu1,hfu1,hru1⟩:=h1.row (t:=1) (by omega) (G1_at HROW.out)
  have hL1':=hL1
  rw [G1_len] at hL1'
  obtain ⟨q1,c1,hcq,⟨v1,hv1⟩,hf1,hoq1,hst1⟩:=h1.stored1 (t:=1) (by omega) (by omega) (G1_at HROW.out) hil hL1 b
  rw [G_seen] at hst1
  have hc1:=h1.cell 1 (by omega)
  rw [hL1'] at hc1
  have hcv:=conv_any (n:=64) (c:=c) (HA.out w1 HT1.out) HB.out.1
  have hcv':(convert 48 9 (.slice A 64 c)).run Tryz.prog w1.drew=.ok (.string (strOfNums b)) w1.drew:=conv_any (n:=64) (c:=c) (show Byt w1.drew A b from HA.out w1 HT1.out) HB.out.1
  have HS1:=Lib.hid hst1
  have HOQ:=Lib.hid hoq1
  have hii:(i:Int)<row.length:=by omega
  clear hst1 hoq1 hru1 hcu1 hfu1 ho1 hg1 h1 H1 hL1 hL1'
  go_upto_region 6 with fail
  go_still_tail 11,(by kernel_rfl)
  change wpList _ _ _ _ _ w1.drew
  clear hcv hcv' hcq hc1
  have HS1':Hid (RAt ((w1.drew).setCell ⟨q1,i,none⟩ (.string (strOfNums b))) O hp' L ({ m with seen:=m.seen.set r (row.set i b) }:RM).G lf):=HS1.out.below (bdn (Below.refl _ _) 1)
  have HT2:Hid (Touch (fun k=>O k≠.none) w ((w1.drew).setCell ⟨q1,i,none⟩ (.string (strOfNums b)))):=(HT1.out.drew).setCell (p:=⟨q1,i,none⟩) (by show O q1≠.none;rw [HOQ.out];simp) _
  have hv2:w1.drew.cell? ⟨q1,i,none⟩=some v1:=hv1
  have hf2:w1.drew.frozen? ⟨q1,i,none⟩=false:=hf1
  clear hv1 hf1
  generalize w1.drew=wD at *
  go_upto_region 7 with fail
  clear hv2 hf2
  generalize wD.setCell ⟨q1,i,none⟩ (.string (strOfNums b))=w2 at *
  have HO2:=Lib.hid (show ∀ k,O k≠.none→k<w2.heap.size from fun k hk=>Nat.lt_of_lt_of_le (HO.out k hk) HT2.out.size)
  have HR2:=HS1'
  have HG2A:=Lib.hid (G2_at (m:={ m with seen:=m.seen.set r (row.set i b) }) HW.out)
  obtain ⟨g2,cap2,u2,hL2,ho2,hg2,hcu2,hfu2,hru2⟩:=HR2.out.row (t:=2) (by omega) HG2A.out
  have HL2:=Lib.hid hL2
  have HOG:=Lib.hid ho2
  have HG2:=Lib.hid hg2
  have CU:=Lib.hid hcu2
  have HF2:=Lib.hid hfu2
  have hwl:wrow.length≤100000:=by have:=hmax.1;rw [List.getD,HW.out] at this;exact this
  have hL2':L 2=.slice (some ⟨g2,0,none⟩) m.seen.length cap2:=by rw [hL2,show ((({ m with seen:=m.seen.set r (row.set i b) }:RM)).G 2).length=m.seen.length from G2_len HOK.out]
  have C2:=Lib.hid (HR2.out.cell 2 (by omega))
  rw [hL2'] at C2
  have hgn:¬ O g2=.row 2 r:=by rw [ho2];simp
  have hhn:¬ O hp'=.row 2 r:=by rw [HR2.out.ohd];simp
  have HCV:=Lib.hid (show ∀ W,Touch (fun k=>O k=.row 2 r) w2 W→(convert 48 9 (.slice A 64 c)).run Tryz.prog W=.ok (.string (strOfNums b)) W from fun W hW=>conv_any (n:=64) (c:=c) (HA.out W (HT2.out.trans (hW.mono' fun x hx=>by rw [hx];simp))) HB.out.1)
  obtain ⟨wn,hwn⟩:∃ n,n=wrow.length:=⟨_,rfl⟩
  obtain ⟨xs2,hxs⟩:∃ x,x=(wrow.map penE).flatten:=⟨_,rfl⟩
  rw [List.length_map,← hwn,← hxs] at hru2
  have hwn1:wn≤100000:=by rw [hwn];exact hwl
  have HWN:Hid (wrow.length=wn):=hwn.symm
  have HXS:Hid ((wrow.map penE).flatten=xs2):=hxs.symm
  have HRU:=Lib.hid hru2
  have hbd:∀ k,u2.ownBlock=some k→k<w2.heap.size:=fun k hk=>(hru2.1.lt k hk).2
  clear hL2 ho2 hg2 hcu2 hfu2 hru2 hwn hxs hwl HS1'
  go_upto_region 7 with fail
  have srefl:∀ (i:Nat) (W:World),SU 17 u2 i W W:=fun i W=>by unfold SU;split <;> exact World.grownBy.refl W _
  have hJ0:Touch (fun k=>O k=.row 2 r) w2 w2.drew∧RowAt w2.drew (fun k=>O k=.row 2 r) 117 2 u2 wn xs2:=⟨(Touch.refl _ _).drew,HRU.out⟩
  refine wp_region_rgi (VU7 hp' g2 r i wn c w2.heap.size A (strOfNums b) (.slice (some ⟨g2,0,none⟩) m.seen.length cap2) u2 (fun k=>O k=.row 2 r) xs2) (fun W=>Touch (fun k=>O k=.row 2 r) w2 W∧RowAt W (fun k=>O k=.row 2 r) 117 2 u2 wn xs2) (SU 17 u2) (by kernel_rfl) (by kernel_rfl) (fun i j v w w' hij h hg=>h.on hbd hij hg) hJ0 ?_
  clear hJ0
  simp only [RAll]
  refine ⟨?_,?_,?_,?_,?_,?_,?_,?_,?_,?_,?_,?_,?_,?_,?_,?_,?_,?_,?_,?_⟩
  ·refine RStep.of rfl fun T W hag hJ hd=>?_
   have e0:T.getD 0 undef=_:=(agree_at hag 0 (by kernel_rfl)).trans rfl
   clear hag hd
   go_simp
   first | exact ⟨_,rfl,rfl⟩ | exact ⟨_,rfl,rfl,hJ,srefl _ _⟩
  ·refine RStep.of rfl fun T W hag hJ hd=>?_
   have d44:T.getD 44 undef=_:=hd ⟨0,.data⟩ (by simp) rfl _ rfl
   clear hag hd
   go_simp
   first | exact ⟨_,rfl,rfl⟩ | exact ⟨_,rfl,rfl,hJ,srefl _ _⟩
  ·refine RStep.of rfl fun T W hag hJ hd=>?_
   have d45:T.getD 45 undef=_:=hd ⟨1,.data⟩ (by simp) rfl _ rfl
   clear hag hd
   go_simp
   first | exact ⟨_,rfl,rfl⟩ | exact ⟨_,rfl,rfl,hJ,srefl _ _⟩
  ·refine RStep.of rfl fun T W hag hJ hd=>?_
   have d46:T.getD 46 undef=_:=hd ⟨2,.data⟩ (by simp) rfl _ rfl
   have fct0:=keepT hJ.1 C2.out hhn
   clear hag hd
   go_simp
   first | exact ⟨_,rfl,rfl⟩ | exact ⟨_,rfl,rfl,hJ,srefl _ _⟩
  ·refine RStep.of rfl fun T W hag hJ hd=>?_
   have e1:T.getD 1 undef=_:=(agree_at hag 1 (by kernel_rfl)).trans rfl
   clear hag hd
   go_simp
   first | exact ⟨_,rfl,rfl⟩ | exact ⟨_,rfl,rfl,hJ,srefl _ _⟩
  ·refine RStep.of rfl fun T W hag hJ hd=>?_
   have e0:T.getD 0 undef=_:=(agree_at hag 0 (by kernel_rfl)).trans rfl
   clear hag hd
   go_simp
   first | exact ⟨_,rfl,rfl⟩ | exact ⟨_,rfl,rfl,hJ,srefl _ _⟩
  ·refine RStep.of rfl fun T W hag hJ hd=>?_
   have d49:T.getD 49 undef=_:=hd ⟨5,.data⟩ (by simp) rfl _ rfl
   clear hag hd
   go_simp
   first | exact ⟨_,rfl,rfl⟩ | exact ⟨_,rfl,rfl,hJ,srefl _ _⟩
  ·refine RStep.of rfl fun T W hag hJ hd=>?_
   have d50:T.getD 50 undef=_:=hd ⟨6,.data⟩ (by simp) rfl _ rfl
   clear hag hd
   go_simp
   first | exact ⟨_,rfl,rfl⟩ | exact ⟨_,rfl,rfl,hJ,srefl _ _⟩
  ·refine RStep.of rfl fun T W hag hJ hd=>?_
   have d51:T.getD 51 undef=_:=hd ⟨7,.data⟩ (by simp) rfl _ rfl
   have fct0:=keepT hJ.1 C2.out hhn
   clear hag hd
   go_simp
   first | exact ⟨_,rfl,rfl⟩ | exact ⟨_,rfl,rfl,hJ,srefl _ _⟩
  ·refine RStep.of rfl fun T W hag hJ hd=>?_
   have e1:T.getD 1 undef=_:=(agree_at hag 1 (by kernel_rfl)).trans rfl
   clear hag hd
   go_simp
   first | exact ⟨_,rfl,rfl⟩ | exact ⟨_,rfl,rfl,hJ,srefl _ _⟩
  ·refine RStep.of rfl fun T W hag hJ hd=>?_
   have d52:T.getD 52 undef=_:=hd ⟨8,.data⟩ (by simp) rfl _ rfl
   have d53:T.getD 53 undef=_:=hd ⟨9,.data⟩ (by simp) rfl _ rfl
   clear hag hd
   go_simp
   first | exact ⟨_,rfl,rfl⟩ | exact ⟨_,rfl,rfl,hJ,srefl _ _⟩
  ·refine RStep.of rfl fun T W hag hJ hd=>?_
   have d54:T.getD 54 undef=_:=hd ⟨10,.data⟩ (by simp) rfl _ rfl
   have fct0:=keepT hJ.1 CU.out hgn
   clear hag hd
   go_simp
   first | exact ⟨_,rfl,rfl⟩ | exact ⟨_,rfl,rfl,hJ,srefl _ _⟩
  ·refine RStep.of rfl fun T W hag hJ hd=>?_
   have e2:T.getD 2 undef=_:=(agree_at hag 2 (by kernel_rfl)).trans rfl
   clear hag hd
   go_simp
   first | exact ⟨_,rfl,rfl⟩ | exact ⟨_,rfl,rfl,hJ,srefl _ _⟩
  ·refine RStep.of rfl fun T W hag hJ hd=>?_
   have e3:T.getD 3 undef=_:=(agree_at hag 3 (by kernel_rfl)).trans rfl
   clear hag hd
   go_simp
   first | exact ⟨_,rfl,rfl⟩ | exact ⟨_,rfl,rfl,hJ,srefl _ _⟩
  ·refine RStep.of rfl fun T W hag hJ hd=>?_
   have d57:T.getD 57 undef=_:=hd ⟨13,.data⟩ (by simp) rfl _ rfl
   have fct0:=HCV.out W hJ.1
   clear hag hd
   go_simp
   first | exact ⟨_,rfl,rfl⟩ | exact ⟨_,rfl,rfl,hJ,srefl _ _⟩
  ·refine RStep.of rfl fun T W hag hJ hd=>?_
   have d56:T.getD 56 undef=_:=hd ⟨12,.data⟩ (by simp) rfl _ rfl
   have d58:T.getD 58 undef=_:=hd ⟨14,.data⟩ (by simp) rfl _ rfl
   have d56':=d56
   have d58':=d58
   rw [Array.getD_eq_getD_getElem?] at d56' d58'
   clear hag hd
   go_simp
   first | exact ⟨_,rfl,rfl⟩ | exact ⟨_,rfl,rfl,hJ,srefl _ _⟩
  ·refine RStep.of rfl fun T W hag hJ hd=>?_
   have d59:T.getD 59 undef=_:=hd ⟨15,.data⟩ (by simp) rfl _ rfl
   obtain ⟨i0,hi0,hz0,hz1,hz2⟩:=info_parts infoPen
   refine wp_one_of 115 (.tmp 59) rfl 117 i0 _ 2 Tryz.underlying115 hi0 hz0 hz1 (by decide) (by decide) _ d59 rfl ?_
   refine ⟨_,rfl,⟨W.heap.size,rfl,hJ.1.size,heap_alloc_new W _⟩,⟨hJ.1.alloc _,hJ.2.keep fun k hk _=>Below.heap_alloc W _ k hk⟩,?_⟩
   exact World.grownBy_alloc W _ _
  ·refine RStep.of rfl fun T W hag hJ hd=>?_
   have d55:T.getD 55 undef=u2:=hd ⟨11,.data⟩ (by simp) rfl _ rfl
   obtain ⟨p,(d60:T.getD 60 undef=_),hp1,hp2⟩:=hd ⟨16,.data⟩ (by simp) rfl _ rfl
   obtain ⟨i0,hi0,hz0,hz1,hz2⟩:=info_parts infoPen
   refine wp_push_of (.tmp 55) (.tmp 60) 115 rfl 117 i0 _ 2 24 Tryz.underlying115 hi0 hz0 hz1 hz2 rfl (by decide) u2 wn xs2 d55 _ hJ.2 ⟨p,0,none⟩ 1 1 [.int .i64 (i:Int),.string (strOfNums b)] d60 rfl (fun j u hj=>by rw [Addr.add_mid,blk_cell hp2,Nat.zero_add,List.getElem?_toArray];exact hj) (fun x hx=>by simp at hx;rcases hx with rfl | rfl <;> rfl) (by simp only [maxLen];omega) (by omega) ?_
   intro v' w' hrow hgr hold
   refine ⟨_,rfl,hrow.owner ?_,⟨?_,hold⟩,hgr⟩
   ·intro k _ hk;rcases hk with hk | hk
    ·exact Or.inl hk
    ·exact Or.inr (by have:=hJ.1.size;omega)
   ·exact hJ.1.trans' (Touch.of_grown hgr) fun k hk=>by
     have:=hold.2 k hk.symm
     exact Or.inl this
  ·refine RStep.of rfl fun T W hag hJ hd=>?_
   have d47:T.getD 47 undef=_:=hd ⟨3,.data⟩ (by simp) rfl _ rfl
   have d48:T.getD 48 undef=_:=hd ⟨4,.data⟩ (by simp) rfl _ rfl
   clear hag hd
   go_simp
   first | exact ⟨_,rfl,rfl⟩ | exact ⟨_,rfl,rfl,hJ,srefl _ _⟩
  ·refine RLast.of rfl fun T W hag hJ hd=>?_
   have d62:T.getD 62 undef=_:=hd 18 _ (by simp) rfl
   have x61:RowAt W (fun k=>O k=.row 2 r∨w2.heap.size≤k) 117 2 (T.getD 61 undef) (wn+1) (xs2++[.int .i64 (i:Int),.string (strOfNums b)]):=hd 17 _ (by simp) rfl
   obtain ⟨v,d61⟩:∃ v,T.getD 61 undef=v:=⟨_,rfl⟩
   rw [d61] at x61
   obtain ⟨A2,cq,rfl,_,_⟩:=x61.val
   have hcW:W.cell? ⟨g2,r,none⟩=some u2:=keepT hJ.1 CU.out hgn
   have hfW:W.frozen? ⟨g2,r,none⟩=false:=by rw [World.frozen?_of_block (hJ.1.block g2 HG2.out (by exact hgn))];exact HF2.out
   obtain ⟨n1,n2,n3⟩:=HR2.out.putRow HO2.out (t:=2) (by omega) (row':=(wrow++[(i,b)]).map penE) HG2A.out HL2.out hJ.1 (by
    rw [List.length_map,List.length_append,List.map_append,List.flatten_append,HWN.out,HXS.out]
    exact x61)
   rw [G_wait] at n1
   have HT:Hid (Touch (fun k=>O k≠.none) w (W.setCell ⟨g2,r,none⟩ (.slice A2 (wn+1) cq))):=(HT2.out.trans (hJ.1.mono' (G:=fun k=>O k≠.none) fun x hx=>by rw [hx];simp)).setCell (p:=⟨g2,r,none⟩) (by show O g2≠.none;rw [HOG.out];simp) _
   have n2':∀ k,rOwn O w2.heap.size 2 r (.slice A2 (wn+1) cq) k≠.none→k<(W.setCell ⟨g2,r,none⟩ (.slice A2 (wn+1) cq)).heap.size:=fun k hk=>by have:=n2 k hk;simpa using this
   have HM:=Lib.hid (And.intro n1 (And.intro n2' n3))
   have HAG:=Lib.hid hag
   clear hag hd x61 n1 n2 n2' n3
   go_simp
   obtain ⟨f,hf,hTT⟩:=agree_fn HAG.out
   clear HAG hf
   generalize World.setCell W ⟨g2,r,none⟩ (.slice A2 (wn+1) cq)=W2 at *
   rw [hTT]
   clear hTT d62 d61 hcW hfW
   simp only [List.filterMap_cons,List.filterMap_nil,List.foldl_cons,List.foldl_nil,List.setIfInBounds_toArray,List.set_cons_succ,List.set_cons_zero]
   obtain ⟨O3,hO3⟩:∃ x,x=rOwn O w2.heap.size 2 r (.slice A2 (wn+1) cq):=⟨_,rfl⟩
   rw [← hO3] at HM
   clear hO3
   have HG3A:=Lib.hid (G3_at (m:={ m with seen:=m.seen.set r (row.set i b),wait:=m.wait.set r (wrow++[(i,b)]) }) HTR.out)
   obtain ⟨g3,cap3,u3,hL3,ho3,hg3,hcu3,hfu3,hru3⟩:=HM.out.1.row (t:=3) (by omega) HG3A.out
   have HL3:=Lib.hid hL3
   have HOG3:=Lib.hid ho3
   have HG3:=Lib.hid hg3
   have CU3:=Lib.hid hcu3
   have HF3:=Lib.hid hfu3
   have htl:trow.length≤100000:=by have:=hmax.2;rw [List.getD,HTR.out] at this;exact this
   have hL3':L 3=.slice (some ⟨g3,0,none⟩) m.seen.length cap3:=by rw [hL3,show ((({ m with seen:=m.seen.set r (row.set i b),wait:=m.wait.set r (wrow++[(i,b)]) }:RM)).G 3).length=m.seen.length from G3_len HOK.out]
   have C3:=Lib.hid (HM.out.1.cell 3 (by omega))
   rw [hL3'] at C3
   have hgn3:¬ O3 g3=.row 3 r:=by rw [ho3];simp
   have hhn3:¬ O3 hp'=.row 3 r:=by rw [HM.out.1.ohd];simp
   have HCV3:=Lib.hid (show ∀ W,Touch (fun k=>O3 k=.row 3 r) W2 W→(convert 48 9 (.slice A 64 c)).run Tryz.prog W=.ok (.string (strOfNums b)) W from fun W hW=>conv_any (n:=64) (c:=c) (HA.out W (HT.out.trans' hW (fun x hx=>by
    have h9:=HM.out.2.2 x (by rw [hx];simp)
    rcases h9 with h9 | h9
    ·exact Or.inl h9
    ·exact Or.inr (Nat.le_trans HT2.out.size h9)))) HB.out.1)
   obtain ⟨tn,htn⟩:∃ n,n=trow.length:=⟨_,rfl⟩
   obtain ⟨xs3,hxs3⟩:∃ x,x=(trow.map strE).flatten:=⟨_,rfl⟩
   rw [List.length_map,← htn,← hxs3] at hru3
   have htn1:tn≤100000:=by rw [htn];exact htl
   have HTN:Hid (trow.length=tn):=htn.symm
   have HXS3:Hid ((trow.map strE).flatten=xs3):=hxs3.symm
   have HRU3:=Lib.hid hru3
   have hbd3:∀ k,u3.ownBlock=some k→k<W2.heap.size:=fun k hk=>(hru3.1.lt k hk).2
   have HHI:=Lib.hid (fun W=>high_any i (by omega) W)
   obtain ⟨s1,hs1⟩:∃ s1,s1=strOfNums [((i/256:Nat):Int),((i%256:Nat):Int)]:=⟨_,rfl⟩
   have hz1:s1.size=2:=by rw [hs1,str_size];rfl
   have hz2:(strOfNums b).size=64:=by rw [str_size];exact HB.out.1
   have HSE:=Lib.hid hs1
   clear hs1
   have hwu:IntKind.u64.wrap (i:Int)=i:=IntWalk.u64_in _ (by omega)
   clear hL3 ho3 hg3 hcu3 hfu3 hru3 htn hxs3 htl hL3' hL2' hgn hhn HCV HRU HXS HWN srefl hbd C2 CU HF2 HG2 HL2 HOG hJ
   go_upto_region 8 with fail
   have srefl3:∀ (i:Nat) (W:World),SU 20 u3 i W W:=fun i W=>by unfold SU;split <;> exact World.grownBy.refl W _
   have hJ0:Touch (fun k=>O3 k=.row 3 r) W2 W2.drew∧RowAt W2.drew (fun k=>O3 k=.row 3 r) 9 1 u3 tn xs3:=⟨(Touch.refl _ _).drew,HRU3.out⟩
   refine wp_region_rgi (VU8 hp' g3 r i tn c W2.heap.size A s1 (strOfNums b) (.slice (some ⟨g3,0,none⟩) m.seen.length cap3) u3 (fun k=>O3 k=.row 3 r) xs3) (fun W=>Touch (fun k=>O3 k=.row 3 r) W2 W∧RowAt W (fun k=>O3 k=.row 3 r) 9 1 u3 tn xs3) (SU 20 u3) (by kernel_rfl) (by kernel_rfl) (fun i j v w w' hij h hg=>h.on hbd3 hij hg) hJ0 ?_
   clear hJ0
   simp only [RAll]
   refine ⟨?_,?_,?_,?_,?_,?_,?_,?_,?_,?_,?_,?_,?_,?_,?_,?_,?_,?_,?_,?_,?_,?_,?_⟩
   ·refine RStep.of rfl fun T W hag hJ hd=>?_
    have e0:T.getD 0 undef=_:=(agree_at hag 0 (by kernel_rfl)).trans rfl
    clear hag hd
    go_simp
    first | exact ⟨_,rfl,rfl⟩ | exact ⟨_,rfl,rfl,hJ,srefl3 _ _⟩
   ·refine RStep.of rfl fun T W hag hJ hd=>?_
    have d63:T.getD 63 undef=_:=hd ⟨0,.data⟩ (by simp) rfl _ rfl
    clear hag hd
    go_simp
    first | exact ⟨_,rfl,rfl⟩ | exact ⟨_,rfl,rfl,hJ,srefl3 _ _⟩
   ·refine RStep.of rfl fun T W hag hJ hd=>?_
    have d64:T.getD 64 undef=_:=hd ⟨1,.data⟩ (by simp) rfl _ rfl
    clear hag hd
    go_simp
    first | exact ⟨_,rfl,rfl⟩ | exact ⟨_,rfl,rfl,hJ,srefl3 _ _⟩
   ·refine RStep.of rfl fun T W hag hJ hd=>?_
    have d65:T.getD 65 undef=_:=hd ⟨2,.data⟩ (by simp) rfl _ rfl
    have fct0:=keepT hJ.1 C3.out hhn3
    clear hag hd
    go_simp
    first | exact ⟨_,rfl,rfl⟩ | exact ⟨_,rfl,rfl,hJ,srefl3 _ _⟩
   ·refine RStep.of rfl fun T W hag hJ hd=>?_
    have e1:T.getD 1 undef=_:=(agree_at hag 1 (by kernel_rfl)).trans rfl
    clear hag hd
    go_simp
    first | exact ⟨_,rfl,rfl⟩ | exact ⟨_,rfl,rfl,hJ,srefl3 _ _⟩
   ·refine RStep.of rfl fun T W hag hJ hd=>?_
    have e0:T.getD 0 undef=_:=(agree_at hag 0 (by kernel_rfl)).trans rfl
    clear hag hd
    go_simp
    first | exact ⟨_,rfl,rfl⟩ | exact ⟨_,rfl,rfl,hJ,srefl3 _ _⟩
   ·refine RStep.of rfl fun T W hag hJ hd=>?_
    have d68:T.getD 68 undef=_:=hd ⟨5,.data⟩ (by simp) rfl _ rfl
    clear hag hd
    go_simp
    first | exact ⟨_,rfl,rfl⟩ | exact ⟨_,rfl,rfl,hJ,srefl3 _ _⟩
   ·refine RStep.of rfl fun T W hag hJ hd=>?_
    have d69:T.getD 69 undef=_:=hd ⟨6,.data⟩ (by simp) rfl _ rfl
    clear hag hd
    go_simp
    first | exact ⟨_,rfl,rfl⟩ | exact ⟨_,rfl,rfl,hJ,srefl3 _ _⟩
   ·refine RStep.of rfl fun T W hag hJ hd=>?_
    have d70:T.getD 70 undef=_:=hd ⟨7,.data⟩ (by simp) rfl _ rfl
    have fct0:=keepT hJ.1 C3.out hhn3
    clear hag hd
    go_simp
    first | exact ⟨_,rfl,rfl⟩ | exact ⟨_,rfl,rfl,hJ,srefl3 _ _⟩
   ·refine RStep.of rfl fun T W hag hJ hd=>?_
    have e1:T.getD 1 undef=_:=(agree_at hag 1 (by kernel_rfl)).trans rfl
    clear hag hd
    go_simp
    first | exact ⟨_,rfl,rfl⟩ | exact ⟨_,rfl,rfl,hJ,srefl3 _ _⟩
   ·refine RStep.of rfl fun T W hag hJ hd=>?_
    have d71:T.getD 71 undef=_:=hd ⟨8,.data⟩ (by simp) rfl _ rfl
    have d72:T.getD 72 undef=_:=hd ⟨9,.data⟩ (by simp) rfl _ rfl
    clear hag hd
    go_simp
    first | exact ⟨_,rfl,rfl⟩ | exact ⟨_,rfl,rfl,hJ,srefl3 _ _⟩
   ·refine RStep.of rfl fun T W hag hJ hd=>?_
    have d73:T.getD 73 undef=_:=hd ⟨10,.data⟩ (by simp) rfl _ rfl
    have fct0:=keepT hJ.1 CU3.out hgn3
    clear hag hd
    go_simp
    first | exact ⟨_,rfl,rfl⟩ | exact ⟨_,rfl,rfl,hJ,srefl3 _ _⟩
   ·refine RStep.of rfl fun T W hag hJ hd=>?_
    have e2:T.getD 2 undef=_:=(agree_at hag 2 (by kernel_rfl)).trans rfl
    clear hag hd
    go_simp
    first | exact ⟨_,rfl,rfl⟩ | exact ⟨_,rfl,rfl,hJ,srefl3 _ _⟩
   ·refine RStep.of rfl fun T W hag hJ hd=>?_
    have d75:T.getD 75 undef=_:=hd ⟨12,.data⟩ (by simp) rfl _ rfl
    clear hag hd
    go_simp
    first | exact ⟨_,rfl,rfl⟩ | exact ⟨_,rfl,rfl,hJ,srefl3 _ _⟩
   ·refine RStep.of rfl fun T W hag hJ hd=>?_
    have d76:T.getD 76 undef=_:=hd ⟨13,.data⟩ (by simp) rfl _ rfl
    clear hag hd
    go_simp
    refine (HHI.out W).mono ?_
    rintro e w' ⟨⟨q,rfl,hq,hqb⟩,hb⟩
    refine ⟨_,rfl,⟨q,rfl,Nat.le_trans hJ.1.size hq,hqb⟩,⟨hJ.1.on_below hb,hJ.2.below hb⟩,?_⟩
    unfold SU;rw [if_neg (by decide)];exact grown_of_below hb
   ·refine RStep.of rfl fun T W hag hJ hd=>?_
    obtain ⟨q,(d77:T.getD 77 undef=_),hq,hqb⟩:=hd ⟨14,.data⟩ (by simp) rfl _ rfl
    have hcv:=conv_any (n:=2) (c:=2) (byt_blk hqb (show _=Bs [((i/256:Nat):Int),((i%256:Nat):Int)] from rfl)) rfl
    rw [← HSE.out] at hcv
    clear hag hd
    go_simp
    first | exact ⟨_,rfl,rfl⟩ | exact ⟨_,rfl,rfl,hJ,srefl3 _ _⟩
   ·refine RStep.of rfl fun T W hag hJ hd=>?_
    have e3:T.getD 3 undef=_:=(agree_at hag 3 (by kernel_rfl)).trans rfl
    clear hag hd
    go_simp
    first | exact ⟨_,rfl,rfl⟩ | exact ⟨_,rfl,rfl,hJ,srefl3 _ _⟩
   ·refine RStep.of rfl fun T W hag hJ hd=>?_
    have d79:T.getD 79 undef=_:=hd ⟨16,.data⟩ (by simp) rfl _ rfl
    have fct0:=HCV3.out W hJ.1
    clear hag hd
    go_simp
    first | exact ⟨_,rfl,rfl⟩ | exact ⟨_,rfl,rfl,hJ,srefl3 _ _⟩
   ·refine RStep.of rfl fun T W hag hJ hd=>?_
    have d78:T.getD 78 undef=_:=hd ⟨15,.data⟩ (by simp) rfl _ rfl
    have d80:T.getD 80 undef=_:=hd ⟨17,.data⟩ (by simp) rfl _ rfl
    clear hag hd
    go_simp
    first | exact ⟨_,rfl,rfl⟩ | exact ⟨_,rfl,rfl,hJ,srefl3 _ _⟩
   ·refine RStep.of rfl fun T W hag hJ hd=>?_
    have d81:T.getD 81 undef=_:=hd ⟨18,.data⟩ (by simp) rfl _ rfl
    obtain ⟨i0,hi0,hz0,hz1,hz2⟩:=info_parts infoStr
    refine wp_one_of 63 (.tmp 81) rfl 9 i0 _ 1 Tryz.underlying63 hi0 hz0 hz1 (by decide) (by decide) _ d81 rfl ?_
    refine ⟨_,rfl,⟨W.heap.size,rfl,hJ.1.size,heap_alloc_new W _⟩,⟨hJ.1.alloc _,hJ.2.keep fun k hk _=>Below.heap_alloc W _ k hk⟩,?_⟩
    exact World.grownBy_alloc W _ _
   ·refine RStep.of rfl fun T W hag hJ hd=>?_
    have d74:T.getD 74 undef=u3:=hd ⟨11,.data⟩ (by simp) rfl _ rfl
    obtain ⟨p,(d82:T.getD 82 undef=_),hp1,hp2⟩:=hd ⟨19,.data⟩ (by simp) rfl _ rfl
    obtain ⟨i0,hi0,hz0,hz1,hz2⟩:=info_parts infoStr
    refine wp_push_of (.tmp 74) (.tmp 82) 63 rfl 9 i0 _ 1 16 Tryz.underlying63 hi0 hz0 hz1 hz2 rfl (by decide) u3 tn xs3 d74 _ hJ.2 ⟨p,0,none⟩ 1 1 [.string (s1++strOfNums b)] d82 rfl (fun j u hj=>by rw [Addr.add_mid,blk_cell hp2,Nat.zero_add,List.getElem?_toArray];exact hj) (fun x hx=>by rw [List.mem_singleton.1 hx];rfl) (by simp only [maxLen];omega) (by omega) ?_
    intro v' w' hrow hgr hold
    refine ⟨_,rfl,hrow.owner ?_,⟨?_,hold⟩,hgr⟩
    ·intro k _ hk;rcases hk with hk | hk
     ·exact Or.inl hk
     ·exact Or.inr (by have:=hJ.1.size;omega)
    ·exact hJ.1.trans' (Touch.of_grown hgr) fun k hk=>by
      have:=hold.2 k hk.symm
      exact Or.inl this
   ·refine RStep.of rfl fun T W hag hJ hd=>?_
    have d66:T.getD 66 undef=_:=hd ⟨3,.data⟩ (by simp) rfl _ rfl
    have d67:T.getD 67 undef=_:=hd ⟨4,.data⟩ (by simp) rfl _ rfl
    clear hag hd
    go_simp
    first | exact ⟨_,rfl,rfl⟩ | exact ⟨_,rfl,rfl,hJ,srefl3 _ _⟩
   ·refine RLast.of rfl fun T W hag hJ hd=>?_
    have d84:T.getD 84 undef=_:=hd 21 _ (by simp) rfl
    have x83:RowAt W (fun k=>O3 k=.row 3 r∨W2.heap.size≤k) 9 1 (T.getD 83 undef) (tn+1) (xs3++[.string (s1++strOfNums b)]):=hd 20 _ (by simp) rfl
    obtain ⟨v,d83⟩:∃ v,T.getD 83 undef=v:=⟨_,rfl⟩
    rw [d83] at x83
    obtain ⟨A3,cq3,rfl,_,_⟩:=x83.val
    have hcW:W.cell? ⟨g3,r,none⟩=some u3:=keepT hJ.1 CU3.out hgn3
    have hfW:W.frozen? ⟨g3,r,none⟩=false:=by rw [World.frozen?_of_block (hJ.1.block g3 HG3.out (by exact hgn3))];exact HF3.out
    obtain ⟨n1,n2,n3⟩:=HM.out.1.putRow HM.out.2.1 (t:=3) (by omega) (row':=(trow++[((i/256:Nat):Int) :: ((i%256:Nat):Int) :: b]).map strE) HG3A.out HL3.out hJ.1 (by
     rw [List.length_map,List.length_append,List.map_append,List.flatten_append,HTN.out,HXS3.out]
     rw [HSE.out,str_append] at x83
     exact x83)
    rw [G_tr] at n1
    have hF:Touch (fun k=>O k≠.none) w (W.setCell ⟨g3,r,none⟩ (.slice A3 (tn+1) cq3)):=(HT.out.trans' hJ.1 (fun x hx=>by
     have h9:=HM.out.2.2 x (by rw [hx];simp)
     rcases h9 with h9 | h9
     ·exact Or.inl h9
     ·exact Or.inr (Nat.le_trans HT2.out.size h9))).trans' ((Touch.refl (fun k=>k=g3) W).setCell (p:=⟨g3,r,none⟩) rfl _) (fun x hx=>by
     subst hx
     have h9:=HM.out.2.2 x (by rw [HOG3.out];simp)
     rcases h9 with h9 | h9
     ·exact Or.inl h9
     ·exact Or.inr (Nat.le_trans HT2.out.size h9))
    have n2':∀ k,rOwn O3 W2.heap.size 3 r (.slice A3 (tn+1) cq3) k≠.none→k<(W.setCell ⟨g3,r,none⟩ (.slice A3 (tn+1) cq3)).heap.size:=fun k hk=>by have:=n2 k hk;simpa using this
    have HZ:=Lib.hid (And.intro n1 (And.intro n2' (And.intro n3 hF)))
    have HAG:=Lib.hid hag
    clear hag hd x83 n1 n2 n2' n3 hF
    go_simp
    obtain ⟨f,hf,hTT⟩:=agree_fn HAG.out
    clear HAG hf
    generalize World.setCell W ⟨g3,r,none⟩ (.slice A3 (tn+1) cq3)=W4 at *
    rw [hTT]
    clear hTT d84 d83 hcW hfW
    simp only [List.filterMap_cons,List.filterMap_nil,List.foldl_cons,List.foldl_nil,List.setIfInBounds_toArray,List.set_cons_succ,List.set_cons_zero]
    go_wp2
    go_ret
    refine ⟨rfl,_,?_,HZ.out.2.1,?_,HZ.out.2.2.2⟩
    ·have e1:m.write r i b={ m with seen:=m.seen.set r (row.set i b),wait:=m.wait.set r (wrow++[(i,b)]),traces:=m.traces.set r (trow++[((i/256:Nat):Int) :: ((i%256:Nat):Int) :: b]),left:=lf }:=by
      unfold RM.write
      rw [setAt_of HROW.out,List.getD,HW.out,List.getD,HTR.out,HLF.out]
      rfl
     rw [e1]
     exact HZ.out.1
    ·intro k hk
     rcases HZ.out.2.2.1 k hk with h9 | h9
     ·rcases HM.out.2.2 k h9 with h9 | h9
      ·exact Or.inl h9
      ·exact Or.inr (Nat.le_trans HT2.out.size h9)
     ·exact Or.inr (Nat.le_trans HT.out.size h9)
end
def RM.hasR (m:RM) (r:Int):Bool:=decide (0≤r)&&decide (r<m.seen.length)
section
variable {w:World} {O:Nat→RRole} {hp:Nat} {L:Nat→Value} {m:RM}
theorem rbar_no (h:RAt w O hp L m.G m.left) (r:Int) (hr:i64 r) (hok:m.Ok) (hno:m.hasR r=false) :
 Calls Tryz.prog 42 #[.pointer (some ⟨hp,0,none⟩),.int .i64 r] w fun e w'=>e=.returned (.bool false)∧w=w':=by
 obtain ⟨A,cap,hL1,hc1,hc2⟩:=(h.tab 1 (by omega)).val
 rw [G1_len] at hL1 hc1
 have h1:=h.cell 1 (by omega)
 rw [hL1] at h1
 have hfew:=hok.few
 by_cases h0:r<0
 ·have hd:decide (r<0)=true:=decide_eq_true h0
  clear h hok hno
  go_enter Tryz.func42,Tryz.ntmps42
  go_wp2
  go_ret
  exact ⟨rfl,rfl⟩
 ·have hge:(m.seen.length:Int)≤r:=by unfold RM.hasR at hno;simp at hno;omega
  have hd:decide (r<0)=false:=decide_eq_false h0
  have hd2:decide ((m.seen.length:Int)≤r)=true:=decide_eq_true hge
  clear h hok hno
  generalize m.seen.length=n at *
  go_enter Tryz.func42,Tryz.ntmps42
  go_wp2
  go_ret
  exact ⟨rfl,rfl⟩
theorem rbar_stopped (h:RAt w O hp L m.G m.left) (r:Int) (hr:i64 r) (hok:m.Ok) (hyes:m.hasR r=true) (hl:m.left=0) :
 Calls Tryz.prog 42 #[.pointer (some ⟨hp,0,none⟩),.int .i64 r] w fun e w'=>e=.returned (.bool true)∧w=w':=by
 obtain ⟨A,cap,hL1,hc1,hc2⟩:=(h.tab 1 (by omega)).val
 rw [G1_len] at hL1 hc1
 have h1:=h.cell 1 (by omega)
 rw [hL1] at h1
 have c4:=h.c4
 rw [hl] at c4
 have hfew:=hok.few
 have hb:0≤r∧r<m.seen.length:=by unfold RM.hasR at hyes;simpa using hyes
 have hd:decide (r<0)=false:=decide_eq_false (by omega)
 have hd2:decide ((m.seen.length:Int)≤r)=false:=decide_eq_false (by omega)
 have hn0:¬ r<0:=by omega
 have hn1:¬ (m.seen.length:Int)≤r:=by omega
 clear h hok hyes hl
 generalize m.seen.length=n at *
 go_enter Tryz.func42,Tryz.ntmps42
 go_wp2
 go_ret
 exact ⟨rfl,rfl⟩
theorem copy_run {W:World} {Own:Nat→Prop} {n:Nat} {u:Value} {xs:List Value} (hu:RowAt W Own 9 1 u n xs) (hn:0<n) (hn2:n≤1000) (h1:∀ x∈xs,x.oneCell'=true) (q:Nat) (hq:W.heap[q]?=some (.cells #[] 9 (0,0))) (ty:TypeId) :
 ∃ v' W2,(Builtin.append_ #[63,63] ty #[.slice (some ⟨q,0,none⟩) 0 0,u]).run Tryz.prog W=.ok v' W2∧RowAt W2 (fun k=>W.heap.size≤k) 9 1 v' n xs∧Below W.heap.size W W2∧∃ A c,v'=.slice A n c:=by
 obtain ⟨i0,hi0,hz0,hz1,hz2⟩:=info_parts infoStr
 obtain ⟨g,cap,rfl,ho,hg,hc1,hc2,hcells,_⟩:=hu.pos hn
 have hlen:=hu.len
 have hr:=run_append_grow (P:=Tryz.prog) W 63 ty 9 i0 _ Tryz.underlying63 hi0 hz0 ⟨q,0,none⟩ 0 0 [] (by simp) (fun j x hj=>by cases hj) ⟨g,0,none⟩ n cap xs (by rw [hz1];exact hlen) (fun j x hj=>by
  have hjl:=(List.getElem?_eq_some_iff.1 hj).1
  rw [Addr.add_mid,Nat.zero_add,hcells j (by omega)];exact hj) (by omega) (by omega) (growslice_fits (by omega) (by rw [hz2];omega))
 have hnews:∀ j x,xs[j]?=some x→W.cell? ((⟨g,0,none⟩:Addr).add j)=some x:=fun j x hj=>by
  have hjl:=(List.getElem?_eq_some_iff.1 hj).1
  rw [Addr.add_mid,Nat.zero_add,hcells j (by omega)];exact hj
 have hown0:W.ownsRow 0 9 1 (.slice (some ⟨q,0,none⟩) 0 0) 0 []:=⟨rfl,Or.inr ⟨q,0,#[],rfl,Nat.zero_le _,hq,Nat.le_refl _,by simp [maxLen],rfl,rfl⟩⟩
 obtain ⟨v',W2,hrun,hown,_,_,hat⟩:=run_append_own_at (P:=Tryz.prog) W 0 63 ty 9 i0 _ 1 16 Tryz.underlying63 hi0 hz0 hz1 hz2 rfl (by decide) _ 0 [] hown0 ⟨g,0,none⟩ n cap xs hlen hnews h1 (by simp only [maxLen];omega) (by omega) (Nat.zero_le _)
 have hb:Below W.heap.size W W2:=by
  rw [hrun] at hr
  injection hr with _ hr
  rw [hr]
  exact (bdn (Below.refl _ _) 1).alloc (Nat.le_refl _) _
 have hv:v'=.slice (some ⟨W.heap.size,0,none⟩) (0+n) (grownCap W (0+n) 0 9):=by
  rw [hrun] at hr
  injection hr
 rw [Nat.zero_add,List.nil_append] at hown
 rw [Nat.zero_add] at hv
 refine ⟨v',W2,hrun,⟨hown,fun k hk=>?_⟩,hb,⟨_,_,hv⟩⟩
 rw [hv] at hk;injection hk with hk;dsimp only at hk;omega
end
def RM.barrier (m:RM) (r:Nat):RM :=
 { m with sure:=m.sure.set r (m.seen.getD r []),wait:=m.wait.set r [],traces:=m.traces.set r (m.traces.getD r []++[[255,255]]) }
def VU9 (hp g r n B:Nat) (s:ByteArray) (Lt u:Value) (Own:Nat→Prop) (xs:List Value) (i:Nat) (v:Value) (w:World):Prop :=
 match i with
 | 0 | 1 | 5 | 6=>v=.pointer (some ⟨hp,0,none⟩)
 | 2 | 7=>v=.pointer (some ⟨hp,3,none⟩)
 | 3 | 8=>v=Lt
 | 4 | 9=>v=.int .i64 r
 | 10 | 14=>v=.pointer (some ⟨g,r,none⟩)
 | 11=>v=u
 | 12=>∃ p,v=.slice (some ⟨p,0,none⟩) 1 1∧B≤p∧w.heap[p]?=some (.cells #[.string s] 9 (0,0))
 | 13=>RowAt w (fun k=>Own k∨B≤k) 9 1 v (n+1) (xs++[.string s])
 | _=>True
theorem VU9.on {hp g r n B:Nat} {s:ByteArray} {Lt u:Value} {Own:Nat→Prop} {xs:List Value} (hB:∀ k,u.ownBlock=some k→k<B) {i k:Nat} {v:Value} {w w':World} (hik:i≠k) (h:VU9 hp g r n B s Lt u Own xs k v w) (hg:SU 13 u i w w'):VU9 hp g r n B s Lt u Own xs k v w':=by
 unfold SU at hg
 unfold VU9 at *
 split <;> try exact h
 ·obtain ⟨p,e,h1,h2⟩:=h
  refine ⟨p,e,h1,?_⟩
  split at hg
  ·rw [hg.block p (room_lt h2) (fun e=>by have:=hB p e.symm;omega)];exact h2
  ·rw [hg.block p (room_lt h2) (by simp)];exact h2
 ·rw [if_neg hik] at hg
  exact h.keep fun k hk _=>hg.block k hk (by simp)
 ·trivial
end Go.Proofs.YtamnpblijdgdaaaGreat
