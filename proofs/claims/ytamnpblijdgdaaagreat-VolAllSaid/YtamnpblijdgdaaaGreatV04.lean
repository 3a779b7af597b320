/- For VolAll: contracts and facts, part 4. -/
import Derived.Laws.FloatArith
import Derived.Lib.Hide
import Derived.Laws.BitsLemmas
import Derived.Laws.ShiftsVar
import Derived.Deep.DeepCutAuto
import Derived.Test.YtamnpblijdgdaaaGreatV01
import Derived.Test.YtamnpblijdgdaaaGreatV02
import Derived.Test.YtamnpblijdgdaaaGreatV03
namespace Go.Proofs.YtamnpblijdgdaaaGreat
open Go.ChangeShapes Go.WideShapes Go.ChangeAt Go.RowKit
set_option linter.unusedVariables false
set_option maxRecDepth 100000
structure DWr where
 r:Nat
 i:Nat
 b:List Int
structure DM where
 now:List (List (List Int))
 sure:List (List (List Int))
 done:List DWr
 uns:List Nat
 stops:Bool
 left:Nat
def encB (row:List (List Int)):List Value:=row.flatMap Bs
def DWr.cs (x:DWr):List Value:=.complex .f64 (Fx.fb x.r) (Fx.fb x.i) :: Bs x.b
def encW (l:List DWr):List Value:=l.flatMap DWr.cs
def encN (l:List Nat):List Value:=l.map fun (n:Nat)=>.int .i64 n
def BlkOk (b:List Int):Prop:=b.length=64∧AllB b
structure DM.Ok (m:DM):Prop where
 pos:0<m.now.length
 few:m.now.length≤8
 sureLen:m.sure.length=m.now.length
 unsLen:m.uns.length=m.now.length
 rows:∀ (r:Nat) (row:List (List Int)),m.now[r]?=some row→row.length≤1000∧(∀ b∈row,BlkOk b)
 sures:∀ (r:Nat) (row:List (List Int)),m.sure[r]?=some row→(∃ row':List (List Int),m.now[r]?=some row'∧row.length=row'.length)∧(∀ b∈row,BlkOk b)
 dones:∀ x∈m.done,(∃ row:List (List Int),m.now[x.r]?=some row∧(x.i<row.length∨x.i=65535))∧BlkOk x.b
 unss:∀ (r u:Nat),m.uns[r]?=some u→u≤m.done.length
 left:m.left≤9223372036854775807
inductive DRole | none | hd | nowT | sureT | done | uns | now (r:Nat) | sure (r:Nat)
structure DLay where
 sNow:Value
 sSure:Value
 sDone:Value
 sUns:Value
structure DevRaw (w:World) (O:Nat→DRole) (hp:Nat) (L:DLay) (m:DM):Prop where
 hd:w.heap[hp]?=some (.cells #[L.sNow,L.sSure,L.sDone,L.sUns,.bool m.stops,.int .i64 m.left] 80 (0,0))
 ohd:O hp=.hd
 now:RowsAt w (fun k=>O k=.nowT) (fun r k=>O k=.now r) 81 125 64 encB L.sNow m.now
 sure:RowsAt w (fun k=>O k=.sureT) (fun r k=>O k=.sure r) 81 125 64 encB L.sSure m.sure
 done:RowAt w (fun k=>O k=.done) 127 65 L.sDone m.done.length (encW m.done)
 uns:RowAt w (fun k=>O k=.uns) 3 1 L.sUns m.uns.length (encN m.uns)
structure DevAt (w:World) (O:Nat→DRole) (hp:Nat) (L:DLay) (m:DM):Prop extends DevRaw w O hp L m where
 ok:m.Ok
section
variable {w w':World} {O:Nat→DRole} {hp:Nat} {L:DLay} {m:DM}
theorem DevRaw.lt (h:DevRaw w O hp L m):hp<w.heap.size:=room_lt h.hd
theorem DevRaw.keep (h:DevRaw w O hp L m) (hk:∀ k,k<w.heap.size→O k≠.none→w'.heap[k]?=w.heap[k]?):DevRaw w' O hp L m where
 hd:=by rw [hk hp (room_lt h.hd) (by rw [h.ohd];simp)];exact h.hd
 ohd:=h.ohd
 now:=h.now.keep fun k hk' ho=>hk k hk' (by rcases ho with ho | ⟨r,ho⟩ <;> rw [ho] <;> simp)
 sure:=h.sure.keep fun k hk' ho=>hk k hk' (by rcases ho with ho | ⟨r,ho⟩ <;> rw [ho] <;> simp)
 done:=h.done.keep fun k hk' ho=>hk k hk' (by rw [ho];simp)
 uns:=h.uns.keep fun k hk' ho=>hk k hk' (by rw [ho];simp)
theorem DevAt.keep (h:DevAt w O hp L m) (hk:∀ k,k<w.heap.size→O k≠.none→w'.heap[k]?=w.heap[k]?):DevAt w' O hp L m:=⟨h.toDevRaw.keep hk,h.ok⟩
theorem DevAt.below (h:DevAt w O hp L m) (hb:Below w.heap.size w w'):DevAt w' O hp L m:=h.keep fun k hk _=>hb.block k hk
theorem DevAt.drewN (h:DevAt w O hp L m) (n:Nat):DevAt (w.drewN n) O hp L m:=h.keep fun _ _ _=>rfl
theorem DevAt.alloc (h:DevAt w O hp L m) (o:Obj):DevAt (w.alloc o) O hp L m:=h.keep fun k hk _=>Below.heap_alloc w o k hk
theorem DevRaw.c0 (h:DevRaw w O hp L m):w.cell? ⟨hp,0,none⟩=some L.sNow:=blk_cell h.hd 0
theorem DevRaw.c1 (h:DevRaw w O hp L m):w.cell? ⟨hp,1,none⟩=some L.sSure:=blk_cell h.hd 1
theorem DevRaw.c2 (h:DevRaw w O hp L m):w.cell? ⟨hp,2,none⟩=some L.sDone:=blk_cell h.hd 2
theorem DevRaw.c3 (h:DevRaw w O hp L m):w.cell? ⟨hp,3,none⟩=some L.sUns:=blk_cell h.hd 3
theorem DevRaw.c4 (h:DevRaw w O hp L m):w.cell? ⟨hp,4,none⟩=some (.bool m.stops):=blk_cell h.hd 4
theorem DevRaw.c5 (h:DevRaw w O hp L m):w.cell? ⟨hp,5,none⟩=some (.int .i64 m.left):=blk_cell h.hd 5
theorem DevRaw.f (h:DevRaw w O hp L m) (i:Nat):w.frozen? ⟨hp,i,none⟩=false:=blk_free h.hd i
theorem DevRaw.tail (h:DevRaw w O hp L m) (s:Bool) (l:Nat) (hw:w'.heap[hp]?=some (.cells #[L.sNow,L.sSure,L.sDone,L.sUns,.bool s,.int .i64 l] 80 (0,0)))
 (ho:∀ k,k<w.heap.size→k≠hp→w'.heap[k]?=w.heap[k]?):DevRaw w' O hp L { m with stops:=s,left:=l } where
 hd:=hw
 ohd:=h.ohd
 now:=h.now.keep fun k hk ho'=>ho k hk (fun e=>by subst e;have:=h.ohd;rcases ho' with ho' | ⟨r,ho'⟩ <;> rw [ho'] at this <;> cases this)
 sure:=h.sure.keep fun k hk ho'=>ho k hk (fun e=>by subst e;have:=h.ohd;rcases ho' with ho' | ⟨r,ho'⟩ <;> rw [ho'] at this <;> cases this)
 done:=h.done.keep fun k hk ho'=>ho k hk (fun e=>by subst e;have:=h.ohd;rw [ho'] at this;cases this)
 uns:=h.uns.keep fun k hk ho'=>ho k hk (fun e=>by subst e;have:=h.ohd;rw [ho'] at this;cases this)
end
def Dev (w:World) (F:Nat→Prop) (hp:Nat) (m:DM):Prop:=∃ O L,DevAt w O hp L m∧(∀ k,F k↔O k≠DRole.none)∧∀ k,F k→k<w.heap.size
theorem Dev.keep {w w':World} {F:Nat→Prop} {hp:Nat} {m:DM} (h:Dev w F hp m) (hk:∀ k,k<w.heap.size→F k→w'.heap[k]?=w.heap[k]?) (hs:w.heap.size≤w'.heap.size):Dev w' F hp m:=by
 obtain ⟨O,L,h1,h2,h3⟩:=h
 exact ⟨O,L,h1.keep fun k hk' ho=>hk k hk' ((h2 k).2 ho),h2,fun k hk=>Nat.lt_of_lt_of_le (h3 k hk) hs⟩
theorem Dev.below {w w':World} {F:Nat→Prop} {hp:Nat} {m:DM} (h:Dev w F hp m) (hb:Below w.heap.size w w'):Dev w' F hp m:=h.keep (fun k hk _=>hb.block k hk) hb.size
theorem Dev.touch {w w':World} {F G:Nat→Prop} {hp:Nat} {m:DM} (h:Dev w F hp m) (ht:Touch G w w') (hd:∀ k,F k→¬ G k):Dev w' F hp m:=h.keep (fun k hk hf=>ht.block k hk (hd k hf)) ht.size
theorem Dev.ok {w:World} {F:Nat→Prop} {hp:Nat} {m:DM} (h:Dev w F hp m):m.Ok:=by obtain ⟨O,L,h1,_⟩:=h;exact h1.ok
def hasR (m:DM) (r:Int):Bool:=decide (0≤r)&&decide (r<m.now.length)
theorem hasRegion_any {w:World} {O:Nat→DRole} {hp:Nat} {L:DLay} {m:DM} (h:DevAt w O hp L m) (r:Int) (hr:i64 r) :
 Calls Tryz.prog 65 #[.pointer (some ⟨hp,0,none⟩),.int .i64 r] w fun e w'=>e=.returned (.bool (hasR m r))∧w=w':=by
 obtain ⟨A,cap,hv,hc1,hc2⟩:=h.now.val
 have c0:=h.c0
 have hf:=h.ok.few
 rw [hv] at c0
 unfold hasR
 clear h hv
 generalize m.now.length=n at *
 by_cases h0:0≤r
 ·have d0:decide (0≤r)=true:=by simpa using h0
  by_cases h1:r<n
  ·go_enter Tryz.func65,Tryz.ntmps65
   go_wp2
   go_ret
   exact ⟨ret_bool (by simp <;> omega),rfl⟩
  ·go_enter Tryz.func65,Tryz.ntmps65
   go_wp2
   go_ret
   exact ⟨ret_bool (by simp <;> omega),rfl⟩
 ·go_enter Tryz.func65,Tryz.ntmps65
  go_wp2
  go_ret
  exact ⟨ret_bool (by simp <;> omega),rfl⟩
theorem hasRegion_nil (w:World) (r:Int) :
 Calls Tryz.prog 65 #[.pointer none,.int .i64 r] w fun e w'=>e=.returned (.bool false)∧w=w':=by
 go_enter Tryz.func65,Tryz.ntmps65
 go_wp2
 go_ret
 exact ⟨rfl,rfl⟩
def stopped (m:DM):Bool:=m.stops&&decide (m.left=0)
theorem stopped_any {w:World} {O:Nat→DRole} {hp:Nat} {L:DLay} {m:DM} (h:DevAt w O hp L m) :
 Calls Tryz.prog 112 #[.pointer (some ⟨hp,0,none⟩)] w fun e w'=>e=.returned (.bool (stopped m))∧w=w':=by
 have c4:=h.c4
 have c5:=h.c5
 unfold stopped
 clear h
 generalize m.stops=s at *
 generalize m.left=l at *
 cases s
 ·go_enter Tryz.func112,Tryz.ntmps112
  go_wp2
  go_ret
  exact ⟨rfl,rfl⟩
 ·by_cases hl:l=0
  ·subst hl
   go_enter Tryz.func112,Tryz.ntmps112
   go_wp2
   go_ret
   exact ⟨rfl,rfl⟩
  ·have hl1:(l==0)=false:=by simpa using hl
   have hl2:((l:Int)==0)=false:=by simpa using hl
   go_enter Tryz.func112,Tryz.ntmps112
   go_wp2
   go_ret
   exact ⟨by simp [hl],rfl⟩
theorem place_any (w:World) (r i:Nat) :
 Calls Tryz.prog 99 #[.int .i64 r,.int .i64 i] w fun e w'=>e=.returned (.complex .f64 (Fx.fb r) (Fx.fb i))∧w=w':=by
 go_enter Tryz.func99,Tryz.ntmps99
 go_wp2
 go_ret
 exact ⟨rfl,rfl⟩
def rowLen (l:List (List (List Int))) (r:Nat):Nat:=(l.getD r []).length
def hasB (m:DM) (r i:Int):Bool:=hasR m r&&(decide (0≤i)&&decide (i<rowLen m.now r.toNat))
theorem rowLen_of {l:List (List (List Int))} {r:Nat} {row:List (List Int)} (h:l[r]?=some row):rowLen l r=row.length:=by unfold rowLen;rw [List.getD,h];rfl
theorem hasBlock_any {w:World} {O:Nat→DRole} {hp:Nat} {L:DLay} {m:DM} (h:DevAt w O hp L m) (r i:Int) (hr:i64 r) (hi:i64 i) :
 Calls Tryz.prog 98 #[.pointer (some ⟨hp,0,none⟩),.int .i64 r,.int .i64 i] w fun e w'=>e=.returned (.bool (hasB m r i))∧w=w':=by
 have HH:=Lib.hid h
 have HR:=Lib.hid (hasRegion_any h r hr)
 by_cases hq:hasR m r=true
 ·have hq':=hq
  unfold hasR at hq'
  simp only [Bool.and_eq_true,decide_eq_true_eq] at hq'
  obtain ⟨h0,h1⟩:=hq'
  obtain ⟨rn,rfl⟩:∃ rn:Nat,r=(rn:Int):=⟨r.toNat,by omega⟩
  obtain ⟨row,hrow⟩:∃ row,m.now[rn]?=some row:=⟨_,List.getElem?_eq_getElem (by omega)⟩
  obtain ⟨g,cap,u,hv,_,_,hc,_,hra⟩:=h.now.row hrow
  obtain ⟨A,c2,rfl,k1,k2⟩:=hra.val
  have c0:=h.c0
  rw [hv] at c0
  have few:=h.ok.few
  have hl:=(h.ok.rows _ _ hrow).1
  have eq:hasB m rn i=(decide (0≤i)&&decide (i<row.length)):=by
   unfold hasB
   rw [hq,Int.toNat_natCast,rowLen_of hrow,Bool.true_and]
  rw [eq]
  rw [hq] at HR
  clear h hv hra hrow eq hq
  generalize row.length=n at *
  generalize m.now.length=R at *
  by_cases i0:0≤i
  ·have d0:decide (0≤i)=true:=by simpa using i0
   by_cases i1:i<n
   ·go_enter Tryz.func98,Tryz.ntmps98
    go_wp2_with fail
    refine HR.out.mono ?_
    rintro e w' ⟨rfl,rfl⟩
    go_wp2
    go_ret
    exact ⟨ret_bool (by simp <;> omega),rfl⟩
   ·go_enter Tryz.func98,Tryz.ntmps98
    go_wp2_with fail
    refine HR.out.mono ?_
    rintro e w' ⟨rfl,rfl⟩
    go_wp2
    go_ret
    exact ⟨ret_bool (by simp <;> omega),rfl⟩
  ·go_enter Tryz.func98,Tryz.ntmps98
   go_wp2_with fail
   refine HR.out.mono ?_
   rintro e w' ⟨rfl,rfl⟩
   go_wp2
   go_ret
   exact ⟨ret_bool (by simp <;> omega),rfl⟩
 ·have hq1:hasR m r=false:=by simpa using hq
  have eq:hasB m r i=false:=by unfold hasB;rw [hq1];rfl
  rw [eq]
  rw [hq1] at HR
  clear h eq hq hq1
  go_enter Tryz.func98,Tryz.ntmps98
  go_wp2_with fail
  refine HR.out.mono ?_
  rintro e w' ⟨rfl,rfl⟩
  go_wp2
  go_ret
  exact ⟨rfl,rfl⟩
theorem hasBlock_nil (w:World) (r i:Int) :
 Calls Tryz.prog 98 #[.pointer none,.int .i64 r,.int .i64 i] w fun e w'=>e=.returned (.bool false)∧w=w':=by
 go_enter Tryz.func98,Tryz.ntmps98
 go_wp2_with fail
 refine (hasRegion_nil _ _).mono ?_
 rintro e w' ⟨rfl,rfl⟩
 go_wp2
 go_ret
 exact ⟨rfl,rfl⟩
theorem int_fb64 (n:Nat) (h:n<2 ^ 53):floatToIntVal .f64 (Fx.fb n) .i64=some (n:Int):=by
 unfold floatToIntVal
 rw [Fx.toInt_fb n h]
 dsimp only
 rw [if_pos ⟨by have:IntKind.i64.min = -9223372036854775808:=rfl
                omega,by have:IntKind.i64.max=9223372036854775807:=rfl
                         omega⟩]
theorem eq_fb (a b:Nat) (h:a<2 ^ 53) (h':b<2 ^ 53):(FloatKind.f64.format.order (Fx.fb a) (Fx.fb b)==some .eq)=decide (a=b):=by
 rw [Fx.order_fb a b h h']
 rcases Nat.lt_trichotomy a b with g | g | g
 ·rw [Nat.compare_eq_lt.2 g];simp;omega
 ·subst g;simp
 ·rw [Nat.compare_eq_gt.2 g];simp;omega
theorem fb_bar:Fx.fb 65535=4679239875398991872:=by rw [Fx.fb_eq 65535 (by omega)];decide
theorem blockAt_any (w:World) (g cap n r i g' n' cap':Nat) (hr:r<n) (hi:i<n') (hn:n≤1000) (hn':n'≤1000) (hc:w.cell? ⟨g,r,none⟩=some (.slice (some ⟨g',0,none⟩) n' cap')) :
 Calls Tryz.prog 90 #[.slice (some ⟨g,0,none⟩) n cap,.complex .f64 (Fx.fb r) (Fx.fb i)] w fun e w'=>e=.returned (.pointer (some ⟨g',i*64,none⟩))∧w=w':=by
 have v1:=fun w:World=>run_convert_float_int w 82 3 .f64 .i64 _ _ (P:=Tryz.prog) (by kernel_rfl) Tryz.underlying3 (int_fb64 r (by omega))
 have v2:=fun w:World=>run_convert_float_int w 82 3 .f64 .i64 _ _ (P:=Tryz.prog) (by kernel_rfl) Tryz.underlying3 (int_fb64 i (by omega))
 go_enter Tryz.func90,Tryz.ntmps90
 go_wp2
 go_ret
 exact ⟨rfl,rfl⟩
theorem mayOne_any (w:World) (n:Int) (hn:i64 n) :
 Calls Tryz.prog 70 #[.int .i64 n] w fun e w'=>e=.returned (.bool (decide (n<1)||decide (1000<n)))∧w=w':=by
 by_cases h1:n<1
 ·go_enter Tryz.func70,Tryz.ntmps70
  go_wp2
  go_ret
  exact ⟨ret_bool (by simp <;> omega),rfl⟩
 ·have d1:decide (n<1)=false:=by simpa using h1
  go_enter Tryz.func70,Tryz.ntmps70
  go_wp2
  go_ret
  exact ⟨ret_bool (by simp),rfl⟩
theorem barrierOne_any (w:World) (n:Int) :
 Calls Tryz.prog 113 #[.int .i64 n] w fun e w'=>e=.returned (.bool true)∧w=w':=by
 go_enter Tryz.func113,Tryz.ntmps113
 go_wp2
 go_ret
 exact ⟨rfl,rfl⟩
def nextI (l:List DWr) (r i:Nat):Nat:=i+(l.drop i).findIdx (fun x=>x.r==r)
theorem nextI_end (l:List DWr) (r:Nat):nextI l r l.length=l.length:=by unfold nextI;simp
theorem nextI_here {l:List DWr} {r i:Nat} {x:DWr} (h:l[i]?=some x) (hr:x.r=r):nextI l r i=i:=by
 unfold nextI
 have hlt:=(List.getElem?_eq_some_iff.1 h).1
 rw [List.drop_eq_getElem_cons hlt,(List.getElem?_eq_some_iff.1 h).2,List.findIdx_cons]
 simp [hr]
theorem nextI_on {l:List DWr} {r i:Nat} {x:DWr} (h:l[i]?=some x) (hr:x.r≠r):nextI l r i=nextI l r (i+1):=by
 unfold nextI
 have hlt:=(List.getElem?_eq_some_iff.1 h).1
 rw [List.drop_eq_getElem_cons hlt,(List.getElem?_eq_some_iff.1 h).2,List.findIdx_cons,show (x.r==r)=false by simpa using hr]
 simp only [cond_false]
 omega
theorem nextI_le {l:List DWr} {r i:Nat} (h:i≤l.length):i≤nextI l r i∧nextI l r i≤l.length:=by
 unfold nextI
 have:=List.findIdx_le_length (xs:=l.drop i) (p:=fun x=>x.r==r)
 simp at this;omega
theorem nextI_at {l:List DWr} {r i:Nat} (h:nextI l r i<l.length):∃ x,l[nextI l r i]?=some x∧x.r=r:=by
 unfold nextI at h ⊢
 have h1:(l.drop i).findIdx (fun x=>x.r==r)<(l.drop i).length:=by simp;omega
 have h2:=List.findIdx_getElem (w:=h1)
 refine ⟨_,List.getElem?_eq_getElem h,?_⟩
 simp only [List.getElem_drop] at h2
 simpa using h2
theorem encW_drop (l:List DWr) (h:∀ x∈l,x.b.length=64) (i:Nat):(encW l).drop (i*65)=encW (l.drop i):=by
 induction i generalizing l with
 | zero=>simp
 | succ i ih =>
   cases l with
   | nil=>simp [encW]
   | cons x l =>
     have hx:(DWr.cs x).length=65:=by unfold DWr.cs;simp [Bs_length,h x (by simp)]
     have e:encW (x :: l)=DWr.cs x++encW l:=by unfold encW;rw [List.flatMap_cons]
     rw [e,show (i+1)*65=(DWr.cs x).length+i*65 by omega,← List.drop_drop,List.drop_left,ih l (fun y hy=>h y (by simp [hy]))]
     rfl
theorem encW_at {l:List DWr} (h:∀ x∈l,x.b.length=64) {i:Nat} {x:DWr} (hx:l[i]?=some x) (j:Nat) (hj:j<65):(encW l)[i*65+j]?=(DWr.cs x)[j]?:=by
 rw [← List.getElem?_drop,encW_drop l h]
 have hlt:=(List.getElem?_eq_some_iff.1 hx).1
 rw [List.drop_eq_getElem_cons hlt,(List.getElem?_eq_some_iff.1 hx).2]
 have hl:(DWr.cs x).length=65:=by unfold DWr.cs;simp [Bs_length,h x (List.mem_of_getElem? hx)]
 have e:encW (x :: l.drop (i+1))=DWr.cs x++encW (l.drop (i+1)):=by unfold encW;rw [List.flatMap_cons]
 rw [e,List.getElem?_append_left (by omega)]
theorem DM.Ok.blk {m:DM} (h:m.Ok):∀ x∈m.done,x.b.length=64:=fun x hx=>(h.dones x hx).2.1
theorem DM.Ok.done_r {m:DM} (h:m.Ok) {x:DWr} (hx:x∈m.done):x.r<m.now.length∧x.i≤65535:=by
 obtain ⟨⟨row,h1,h2⟩,_⟩:=h.dones x hx
 have:=(h.rows _ _ h1).1
 exact ⟨(List.getElem?_eq_some_iff.1 h1).1,by omega⟩
theorem DevAt.doneAt {w:World} {O:Nat→DRole} {hp:Nat} {L:DLay} {m:DM} (h:DevAt w O hp L m) {i:Nat} {x:DWr} (hx:m.done[i]?=some x) :
 ∃ g cap,L.sDone=.slice (some ⟨g,0,none⟩) m.done.length cap∧O g=.done∧m.done.length≤cap∧cap≤9223372036854775807∧w.cell? ⟨g,i*65,none⟩=some (.complex .f64 (Fx.fb x.r) (Fx.fb x.i))∧w.rangeAt g (i*65+1) (Bs x.b)∧w.rangeAt g (i*65) (DWr.cs x):=by
 have hlt:=(List.getElem?_eq_some_iff.1 hx).1
 have h64:=h.ok.blk x (List.mem_of_getElem? hx)
 obtain ⟨g,cap,hv,ho,hg,hn,hm,hc,hf⟩:=h.done.pos (by omega)
 have all:∀ j,j<65→w.cell? ⟨g,i*65+j,none⟩=(DWr.cs x)[j]?:=fun j hj=>by rw [hc _ (by omega),encW_at h.ok.blk hx j hj]
 refine ⟨g,cap,hv,ho,hn,hm,all 0 (by omega),fun j v hj=>?_,fun j v hj=>?_⟩
 ·have hl:=(List.getElem?_eq_some_iff.1 hj).1
  rw [Bs_length] at hl
  rw [show i*65+1+j=i*65+(j+1) by omega,all _ (by omega)]
  exact hj
 ·have hl:=(List.getElem?_eq_some_iff.1 hj).1
  unfold DWr.cs at hl
  simp [Bs_length] at hl
  rw [all _ (by omega)];exact hj
set_option maxRecDepth 100000 in
theorem next_any {w:World} {O:Nat→DRole} {hp:Nat} {L:DLay} {m:DM} (h:DevAt w O hp L m) (r i:Nat) (hr:r<m.now.length) (hi:i≤m.done.length) (hm:m.done.length≤1000000) :
 Calls Tryz.prog 66 #[.pointer (some ⟨hp,0,none⟩),.int .i64 r,.int .i64 i] w fun e w'=>e=.returned (.int .i64 (nextI m.done r i))∧w=w':=by
 obtain ⟨A,cap,hv,hc1,hc2⟩:=h.done.val
 have c2:=h.c2
 rw [hv] at c2
 have few:=h.ok.few
 have H:=Lib.hid h
 have HV:=Lib.hid hv
 clear h hv
 generalize hn:m.done.length=n at *
 generalize hR:m.now.length=R at *
 have HN:=Lib.hid hn
 have HR:=Lib.hid hR
 clear hn hR
 go_enter Tryz.func66,Tryz.ntmps66
 go_wp2
 refine wp_scope1e (fun a' w'=>w'=w∧∃ k:Nat,k≤n∧Hid (nextI m.done r k=nextI m.done r i)∧∃ u7 u8 u9 u10 u11 u12 u13 u14 u15 u16 u17 u18 u19 u20 u21 u22 u23 u24 u25 u26 u27 u28 u29 u30:Value,a'={ tmps:=#[.pointer (some ⟨hp,0,none⟩),.int .i64 r,.int .i64 k,undef,undef,undef,.int .i64 0,u7,u8,u9,u10,u11,u12,u13,u14,u15,u16,u17,u18,u19,u20,u21,u22,u23,u24,u25,u26,u27,u28,u29,u30],defers:=[] })
  (fun a' _=>n-(intOf (a'.tmps.getD 2 undef)).toNat) rfl ?_ ?_
 ·intro HF
  go_wp2
  go_step3
  rename_i hK
  exact hK _ _ (HF _ _ ⟨rfl,i,hi,rfl,_,_,_,_,_,_,_,_,_,_,_,_,_,_,_,_,_,_,_,_,_,_,_,_,rfl⟩)
 ·rintro a' w' ⟨rfl,k,hk,HE,u7,u8,u9,u10,u11,u12,u13,u14,u15,u16,u17,u18,u19,u20,u21,u22,u23,u24,u25,u26,u27,u28,u29,u30,rfl⟩
  by_cases hkn:k=n
  ·subst hkn
   go_wp2
   simp only [Exit.jump]
   go_ret
   exact ⟨ret_int (by rw [← HE.out,← HN.out,nextI_end]),rfl⟩
  ·have hkl:k<n:=by omega
   have hq:((k:Int)==n)=false:=by simp;omega
   obtain ⟨x,hx⟩:∃ x,m.done[k]?=some x:=⟨_,List.getElem?_eq_getElem (by rw [HN.out];exact hkl)⟩
   obtain ⟨g,cap',hv,_,_,_,e0,_,_⟩:=H.out.doneAt hx
   have hv2:=HV.out
   rw [hv] at hv2
   injection hv2 with e1 e2 e3
   subst e1;subst e3
   have hxr:=H.out.ok.done_r (List.mem_of_getElem? hx)
   rw [HR.out] at hxr
   have ef:=eq_fb x.r r (by omega) (by omega)
   have HX:=Lib.hid hx
   have hfr:floatOfInt .f64 (r:Int)=Fx.fb r:=rfl
   clear e2 hv hx
   by_cases hxq:x.r=r
   ·rw [decide_eq_true hxq] at ef
    have HQ:=Lib.hid hxq
    clear hxq
    go_wp2
    simp only [Exit.jump]
    go_ret
    exact ⟨ret_int (by rw [← HE.out,nextI_here HX.out HQ.out]),rfl⟩
   ·rw [decide_eq_false hxq] at ef
    have HQ:=Lib.hid hxq
    clear hxq
    go_wp2
    go_step3
    refine ⟨rfl,⟨rfl,k+1,by omega,Lib.hid ?_,_,_,_,_,_,_,_,_,_,_,_,_,_,_,_,_,_,_,_,_,_,_,_,_,rfl⟩,?_⟩
    ·rw [← HE.out,nextI_on HX.out HQ.out]
    ·simp [intOf];omega
def bitAt (bs:List Int) (k:Nat):Bool:=match bs[k/8]? with | some x=>(x/2 ^ (k%8))%2==1 | none=>false
theorem u8_and1 (x:Int) (h0:0≤x) (h1:x<256):bits .and .u8 x 1=x%2:=bits_mask .u8 8 (by decide) wraps_u8 1 (by decide) x h0 h1
theorem shr_lt (x:Int) (j:Nat) (h:0≤x∧x<256):0≤x/2 ^ j∧x/2 ^ j<256:=by
 have h2:(0:Int)<2 ^ j:=by have:=Nat.two_pow_pos j;exact_mod_cast this
 refine ⟨Int.ediv_nonneg h.1 (by omega),?_⟩
 have:=Int.ediv_le_self (2 ^ j:Int) h.1
 omega
theorem isSet_any (A:Option Addr) (bs:List Int) (c k:Nat) (w:World) (hB:AllB bs) (hy:Byt w A bs) (hl:bs.length≤9223372036854775807) (hk:k≤1000000) :
 Calls Tryz.prog 57 #[.slice A bs.length c,.int .i64 k] w fun e w'=>e=.returned (.bool (bitAt bs k))∧w=w':=by
 have g1:IntKind.i64.wrap ((k:Int).tdiv 8)=((k/8:Nat):Int):=by
  rw [show (k:Int).tdiv 8=((k/8:Nat):Int) from by rw [Int.ofNat_tdiv];rfl];exact IntWalk.i64_in _ (by omega)
 by_cases h:k/8<bs.length
 ·obtain ⟨x,hx⟩:∃ x,bs[k/8]?=some x:=⟨_,List.getElem?_eq_getElem h⟩
  obtain ⟨a,rfl,hc⟩:=hy _ _ hx
  have hb:=hB x (List.mem_of_getElem? hx)
  have e:bitAt bs k=(bits .and .u8 (x/2 ^ (k%8)) 1==1):=by
   unfold bitAt
   rw [hx]
   have:=shr_lt x (k%8) hb
   rw [u8_and1 _ this.1 this.2]
  rw [e]
  clear e hx hy hB
  generalize bs.length=n at *
  go_enter Tryz.func57,Tryz.ntmps57
  go_wp2
  go_ret
  exact ⟨rfl,rfl⟩
 ·have e:bitAt bs k=false:=by unfold bitAt;rw [List.getElem?_eq_none (by omega)]
  rw [e]
  clear e hy hB
  generalize bs.length=n at *
  go_enter Tryz.func57,Tryz.ntmps57
  go_wp2
  go_ret
  exact ⟨rfl,rfl⟩
def Nts (w:World) (A:Option Addr) (xs:List Int):Prop:=∀ i x,xs[i]?=some x→∃ a,A=some a∧w.cell? (a.add i)=some (.int .i64 x)
def AllI (xs:List Int):Prop:=∀ x∈xs,i64 x
def badSize (n:Int):Bool:=decide (n<1)||decide (1000<n)
set_option maxRecDepth 100000 in
theorem indexFunc_any (A:Option Addr) (zs:List Int) (c:Nat) (w:World) (hB:AllI zs) (hy:Nts w A zs) (hl:zs.length≤1000000) :
 Calls Tryz.prog 95 #[.slice A zs.length c,.func (.func 70) #[] #[]] w fun e w'=>(∃ k:Int,(0≤k↔zs.any badSize=true)∧i64 k∧e=.returned (.int .i64 k))∧w=w':=by
 have HY:=Lib.hid hy
 have HB:=Lib.hid hB
 clear hy hB
 generalize hn:zs.length=n at *
 have HN:=Lib.hid hn
 clear hn
 go_enter Tryz.func95,Tryz.ntmps95
 go_wp2
 go_loop [8] (fun i=>∃ k:Nat,k≤n∧i=.int .i64 k∧Hid ((zs.take k).any badSize=false)) (fun i=>n-(intOf i).toNat)
 case atStart=>exact ⟨0,Nat.zero_le _,rfl,Lib.hid (by simp)⟩
 case round =>
  obtain ⟨k,hk,rfl,HK⟩:=hrel
  by_cases hlt:k<n
  ·obtain ⟨x,hx⟩:∃ x,zs[k]?=some x:=⟨_,List.getElem?_eq_getElem (by rw [HN.out];exact hlt)⟩
   obtain ⟨a,rfl,hc⟩:=HY.out _ _ hx
   have hxi:=HB.out x (List.mem_of_getElem? hx)
   have HX:=Lib.hid hx
   have HM:=Lib.hid (mayOne_any w x hxi)
   clear hx
   have e:(decide (x<1)||decide (1000<x))=badSize x:=rfl
   rw [e] at HM
   clear e
   cases hq:badSize x
   ·have HQ:=Lib.hid hq
    rw [hq] at HM
    clear hq
    go_wp2_with fail
    refine HM.out.mono ?_
    rintro e w' ⟨rfl,rfl⟩
    go_wp2
    go_round
    case rel=>exact ⟨k+1,by omega,by go_num,Lib.hid (by rw [take_snoc' HX.out,List.any_append,HK.out];simp [HQ.out])⟩
    case measure=>simp [intOf];omega
   ·have HQ:=Lib.hid hq
    rw [hq] at HM
    clear hq
    go_wp2_with fail
    refine HM.out.mono ?_
    rintro e w' ⟨rfl,rfl⟩
    go_wp2
    go_ret
    refine ⟨⟨k,?_,by constructor <;> omega,rfl⟩,rfl⟩
    constructor
    ·intro _;exact List.any_eq_true.2 ⟨x,List.mem_of_getElem? HX.out,HQ.out⟩
    ·intro _;omega
  ·obtain rfl:k=n:=by omega
   go_wp2
   go_ret
   refine ⟨⟨-1,?_,by constructor <;> omega,rfl⟩,rfl⟩
   have:=HK.out
   rw [List.take_of_length_le (by rw [HN.out];exact Nat.le_refl _)] at this
   constructor
   ·intro h;omega
   ·rintro ⟨x,h1,h2⟩
    rw [List.any_eq_true.2 ⟨x,h1,h2⟩] at this;cases this
theorem containsFunc_any (A:Option Addr) (zs:List Int) (c:Nat) (w:World) (hB:AllI zs) (hy:Nts w A zs) (hl:zs.length≤1000000) :
 Calls Tryz.prog 69 #[.slice A zs.length c,.func (.func 70) #[] #[]] w fun e w'=>e=.returned (.bool (zs.any badSize))∧w=w':=by
 have HF:=Lib.hid (indexFunc_any A zs c w hB hy hl)
 clear hB hy
 generalize zs.length=n at *
 generalize zs.any badSize=b at *
 go_enter Tryz.func69,Tryz.ntmps69
 go_wp2_with fail
 refine HF.out.mono ?_
 rintro e w' ⟨⟨k,hk,hi,rfl⟩,rfl⟩
 have HK:=Lib.hid hk
 clear hk
 go_wp2
 go_ret
 refine ⟨ret_bool ?_,rfl⟩
 rw [Bool.eq_iff_iff,decide_eq_true_eq]
 exact HK.out
def mayV (zs:List Int):Bool:=decide (0<zs.length)&&(decide (zs.length≤8)&&!zs.any badSize)
theorem dmay_any (A:Option Addr) (zs:List Int) (c:Nat) (w:World) (hB:AllI zs) (hy:Nts w A zs) (hl:zs.length≤1000000) :
 Calls Tryz.prog 30 #[.slice A zs.length c] w fun e w'=>e=.returned (.bool (mayV zs))∧w=w':=by
 have HF:=Lib.hid (containsFunc_any A zs c w hB hy hl)
 unfold mayV
 clear hB hy
 generalize zs.length=n at *
 generalize zs.any badSize=b at *
 by_cases h0:n<1
 ·go_enter Tryz.func30,Tryz.ntmps30
  go_wp2
  go_ret
  exact ⟨ret_bool (by simp;omega),rfl⟩
 ·have d0:decide ((n:Int)<1)=false:=by simp;omega
  by_cases h8:8<n
  ·have d8:decide (8<(n:Int))=true:=by simp;omega
   go_enter Tryz.func30,Tryz.ntmps30
   go_wp2
   go_ret
   exact ⟨ret_bool (by simp;omega),rfl⟩
  ·have d8:decide (8<(n:Int))=false:=by simp;omega
   go_enter Tryz.func30,Tryz.ntmps30
   go_wp2_with fail
   refine HF.out.mono ?_
   rintro e w' ⟨rfl,rfl⟩
   go_wp2
   go_ret
   exact ⟨ret_bool (by cases b <;> simp <;> omega),rfl⟩
def DM.stop (m:DM) (n:Int):DM:={ m with stops:=decide (0≤n),left:=n.toNat }
theorem DM.Ok.stop {m:DM} (h:m.Ok) {n:Int} (hn:i64 n) (hn':n≤9223372036854775807):(m.stop n).Ok:={ h with left:=by show n.toNat≤_;omega }
theorem stop_any {w:World} {O:Nat→DRole} {hp:Nat} {L:DLay} {m:DM} (h:DevAt w O hp L m) (n:Int) (hn:i64 n) (hn':n≤9223372036854775807) :
 Calls Tryz.prog 58 #[.pointer (some ⟨hp,0,none⟩),.int .i64 n] w fun e w'=>e=.returned (.tuple #[])∧DevAt w' O hp L (m.stop n)∧Touch (·= hp) w w':=by
 have HH:=Lib.hid h
 have c4:=h.c4
 have c5:=h.c5
 have f4:=h.f 4
 have f5:=h.f 5
 clear h
 have fin:∀ (s:Bool) (l:Int),l=(n.toNat:Int)→s=decide (0≤n)→DevAt ((w.setCell ⟨hp,4,none⟩ (.bool s)).setCell ⟨hp,5,none⟩ (.int .i64 l)) O hp L (m.stop n)∧Touch (·= hp) w ((w.setCell ⟨hp,4,none⟩ (.bool s)).setCell ⟨hp,5,none⟩ (.int .i64 l)):=by
  rintro s l rfl rfl
  refine ⟨⟨HH.out.toDevRaw.tail _ _ ?_ ?_,HH.out.ok.stop hn hn'⟩,((Touch.refl (·= hp) _).setCell rfl _).setCell rfl _⟩
  ·exact heap_setCell_same' (heap_setCell_same' HH.out.hd _) _
  ·intro k hk hne
   rw [Below.heap_setCell _ _ _ _ hne,Below.heap_setCell _ _ _ _ hne]
 have FIN:=Lib.hid fin
 clear fin
 by_cases h0:0≤n
 ·have d0:decide (0≤n)=true:=by simpa using h0
  go_enter Tryz.func58,Tryz.ntmps58
  go_wp2
  go_end0
  exact ⟨rfl,FIN.out _ _ (by omega) (by simp [h0])⟩
 ·have d0:decide (0≤n)=false:=by simpa using h0
  go_enter Tryz.func58,Tryz.ntmps58
  go_wp2
  go_end0
  exact ⟨rfl,FIN.out _ _ (by omega) (by simp [h0])⟩
theorem encB_length (l:List (List Int)) (h:∀ x∈l,x.length=64):(encB l).length=l.length*64:=by
 induction l with
 | nil=>rfl
 | cons x l ih =>
   have:=ih (fun y hy=>h y (by simp [hy]))
   have hx:=h x (by simp)
   unfold encB at this ⊢
   rw [List.flatMap_cons,List.length_append,this,Bs_length,hx,List.length_cons];omega
theorem encB_drop (l:List (List Int)) (h:∀ x∈l,x.length=64) (i:Nat):(encB l).drop (i*64)=encB (l.drop i):=by
 induction i generalizing l with
 | zero=>simp
 | succ i ih =>
   cases l with
   | nil=>simp [encB]
   | cons x l =>
     have hx:(Bs x).length=64:=by simp [Bs_length,h x (by simp)]
     have e:encB (x :: l)=Bs x++encB l:=by unfold encB;rw [List.flatMap_cons]
     rw [e,show (i+1)*64=(Bs x).length+i*64 by omega,← List.drop_drop,List.drop_left,ih l (fun y hy=>h y (by simp [hy]))]
     rfl
theorem encB_at {l:List (List Int)} (h:∀ x∈l,x.length=64) {i:Nat} {x:List Int} (hx:l[i]?=some x) (j:Nat) (hj:j<64):(encB l)[i*64+j]?=(Bs x)[j]?:=by
 rw [← List.getElem?_drop,encB_drop l h]
 have hlt:=(List.getElem?_eq_some_iff.1 hx).1
 rw [List.drop_eq_getElem_cons hlt,(List.getElem?_eq_some_iff.1 hx).2]
 have hl:(Bs x).length=64:=by simp [Bs_length,h x (List.mem_of_getElem? hx)]
 have e:encB (x :: l.drop (i+1))=Bs x++encB (l.drop (i+1)):=by unfold encB;rw [List.flatMap_cons]
 rw [e,List.getElem?_append_left (by omega)]
theorem RowsAt.blk {w:World} {OT:Nat→Prop} {OR:Nat→Nat→Prop} {ET ER:TypeId} {v:Value} {rows:List (List (List Int))} (h:RowsAt w OT OR ET ER 64 encB v rows) {r i:Nat} {row:List (List Int)} {b:List Int}
 (hr:rows[r]?=some row) (hb:row[i]?=some b) (h64:∀ x∈row,x.length=64) :
 ∃ g cap g' cap',v=.slice (some ⟨g,0,none⟩) rows.length cap∧OT g∧OR r g'∧g<w.heap.size∧g'<w.heap.size∧w.cell? ⟨g,r,none⟩=some (.slice (some ⟨g',0,none⟩) row.length cap')∧w.rangeAt g' (i*64) (Bs b) ∧
  RowAt w (OR r) ER 64 (.slice (some ⟨g',0,none⟩) row.length cap') row.length (encB row):=by
 obtain ⟨g,cap,u,hv,ho,hg,hc,hf,hra⟩:=h.row hr
 have hlt:=(List.getElem?_eq_some_iff.1 hb).1
 obtain ⟨g',cap',rfl,ho',hg',hn,hm,hc',hf'⟩:=hra.pos (by omega)
 refine ⟨g,cap,g',cap',hv,ho,ho',hg,hg',hc,fun j x hj=>?_,hra⟩
 have hl:=(List.getElem?_eq_some_iff.1 hj).1
 have:=h64 b (List.mem_of_getElem? hb)
 rw [Bs_length] at hl
 rw [hc' _ (by omega),encB_at h64 hb j (by omega)]
 exact hj
theorem info73:(Tryz.prog.info? 125).map (fun i=>(i.zero,i.size,i.bytes))=some (some (.agg (Array.replicate 64 (.int .u8 0))),64,64):=by kernel_rfl
theorem size73:(Tryz.prog.info? 125).map (·.size)=some 64:=by kernel_rfl
def VRead (hp r i g B:Nat) (sNow:Value) (b:List Int) (k:Nat) (v:Value) (w:World):Prop :=
 match k with
 | 0 | 1 | 2=>v=.pointer (some ⟨hp,0,none⟩)
 | 3=>v=sNow
 | 4=>v=.int .i64 r
 | 5=>v=.int .i64 i
 | 6=>v=.complex .f64 (Fx.fb r) (Fx.fb i)
 | 7 | 8=>v=.pointer (some ⟨g,i*64,none⟩)
 | 9=>v=.agg (Bs b).toArray
 | 10=>∃ q C,v=.pointer (some ⟨q,0,none⟩)∧B≤q∧C.size=64∧w.heap[q]?=some (.cells C 125 (0,0))
 | _=>True
theorem VRead.on {hp r i g B:Nat} {sNow:Value} {b:List Int} {k:Nat} {v:Value} {w w':World} (h:VRead hp r i g B sNow b k v w) (hg:w.grownBy w' none):VRead hp r i g B sNow b k v w':=by
 unfold VRead at *
 split <;> try exact h
 ·obtain ⟨q,C,e,h1,h2,h3⟩:=h
  exact ⟨q,C,e,h1,h2,by rw [hg.block q (room_lt h3) (by simp)];exact h3⟩
 ·trivial
set_option maxRecDepth 100000 in
theorem read_yes {w:World} {O:Nat→DRole} {hp:Nat} {L:DLay} {m:DM} (h:DevAt w O hp L m) (r i:Nat) {row:List (List Int)} {b:List Int} (hr:m.now[r]?=some row) (hb:row[i]?=some b) :
 Calls Tryz.prog 74 #[.pointer (some ⟨hp,0,none⟩),.int .i64 r,.int .i64 i] w fun e w'=>(∃ q,e=.returned (.tuple #[.slice (some ⟨q,0,none⟩) 64 64,.bool true])∧w.heap.size≤q∧w'.heap[q]?=some (.cells (Bs b).toArray 125 (0,0)))∧Below w.heap.size w w':=by
 have HH:=Lib.hid h
 have hok:=h.ok.rows _ _ hr
 have h64:∀ x∈row,x.length=64:=fun x hx=>(hok.2 x hx).1
 have hn1:=hok.1
 have hrl:=(List.getElem?_eq_some_iff.1 hr).1
 have hil:=(List.getElem?_eq_some_iff.1 hb).1
 have few:=h.ok.few
 have hbl:(Bs b).length=64:=by rw [Bs_length];exact h64 b (List.mem_of_getElem? hb)
 have hB:=Lib.hid (hasBlock_any h r i (by constructor <;> omega) (by constructor <;> omega))
 have hbt:hasB m r i=true:=by
  unfold hasB hasR
  rw [Int.toNat_natCast,rowLen_of hr]
  simp;omega
 rw [hbt] at hB
 clear hbt
 have BLK:Hid (∀ W,Below w.heap.size w W→∃ g cap g' cap',L.sNow=.slice (some ⟨g,0,none⟩) m.now.length cap∧W.cell? ⟨g,r,none⟩=some (.slice (some ⟨g',0,none⟩) row.length cap')∧W.rangeAt g' (i*64) (Bs b)):=fun W hW=>by
  obtain ⟨g,cap,g',cap',hv,_,_,_,_,hc,hra,_⟩:=(h.below hW).now.blk hr hb h64
  exact ⟨g,cap,g',cap',hv,hc,hra⟩
 obtain ⟨g,cap,g',cap',hv,_,_,hgl,hgl',hc,hra,_⟩:=h.now.blk hr hb h64
 have HV:=Lib.hid hv
 have HC:=Lib.hid hc
 have HRA:=Lib.hid hra
 have HBL:=Lib.hid hbl
 clear h hr hb h64 hok hv hc hra hbl
 generalize hR:m.now.length=R at *
 generalize hn:row.length=n at *
 have HR:=Lib.hid hR
 have HNN:=Lib.hid hn
 clear hR hn
 go_enter Tryz.func74,Tryz.ntmps74
 go_wp2_with fail
 refine hB.out.mono ?_
 rintro e w' ⟨rfl,rfl⟩
 go_wp2_with fail
 go_upto_region 3 with fail
 go_cut [8] (fun s wx=>∃ q:Nat,s=.pointer (some ⟨q,0,none⟩)∧w.heap.size≤q∧Below w.heap.size w wx∧wx.heap[q]?=some (.cells (Bs b).toArray 125 (0,0)))
 case first =>
  have grefl:∀ W:World,W.grownBy W none:=fun W=>World.grownBy.refl W _
  refine wp_region_rg (VRead hp r i g' w.heap.size L.sNow b) (Below w.heap.size w) (fun w w'=>w.grownBy w' none) (by kernel_rfl) (by kernel_rfl) (fun j v w w' h hg=>h.on hg) ((Below.refl _ _).drew) ?_
  simp only [RAll]
  refine ⟨?_,?_,?_,?_,?_,?_,?_,?_,?_,?_,?_,?_⟩
  ·refine RStep.of rfl fun T W hag hJ hd=>?_
   have e0:T.getD 0 undef=_:=(agree_at hag 0 (by kernel_rfl)).trans rfl
   clear hag hd
   go_simp
   exact ⟨_,rfl,rfl⟩
  ·refine RStep.of rfl fun T W hag hJ hd=>?_
   have d14:T.getD 14 undef=_:=hd ⟨0,.data⟩ (by simp) rfl _ rfl
   clear hag hd
   go_simp
   exact ⟨_,rfl,rfl⟩
  ·refine RStep.of rfl fun T W hag hJ hd=>?_
   have d15:T.getD 15 undef=_:=hd ⟨1,.data⟩ (by simp) rfl _ rfl
   clear hag hd
   go_simp
   exact ⟨_,rfl,rfl⟩
  ·refine RStep.of rfl fun T W hag hJ hd=>?_
   have d16:T.getD 16 undef=_:=hd ⟨2,.data⟩ (by simp) rfl _ rfl
   have fct0:=(HH.out.below hJ).c0
   clear hag hd
   go_simp
   exact ⟨_,rfl,rfl⟩
  ·refine RStep.of rfl fun T W hag hJ hd=>?_
   have e1:T.getD 1 undef=_:=(agree_at hag 1 (by kernel_rfl)).trans rfl
   clear hag hd
   go_simp
   exact ⟨_,rfl,rfl⟩
  ·refine RStep.of rfl fun T W hag hJ hd=>?_
   have e2:T.getD 2 undef=_:=(agree_at hag 2 (by kernel_rfl)).trans rfl
   clear hag hd
   go_simp
   exact ⟨_,rfl,rfl⟩
  ·refine RStep.of rfl fun T W hag hJ hd=>?_
   have d18:T.getD 18 undef=_:=hd ⟨4,.data⟩ (by simp) rfl _ rfl
   have d19:T.getD 19 undef=_:=hd ⟨5,.data⟩ (by simp) rfl _ rfl
   clear hag hd
   go_simp
   refine (place_any W r i).mono ?_;rintro e w' ⟨rfl,rfl⟩
   exact ⟨_,rfl,rfl,hJ,grefl _⟩
  ·refine RStep.of rfl fun T W hag hJ hd=>?_
   have d17:T.getD 17 undef=_:=hd ⟨3,.data⟩ (by simp) rfl _ rfl
   have d20:T.getD 20 undef=_:=hd ⟨6,.data⟩ (by simp) rfl _ rfl
   rw [HV.out] at d17
   clear hag hd
   go_simp
   refine (blockAt_any W g cap R r i g' n cap' hrl hil (by omega) hn1 (keepC hJ HC.out)).mono ?_;rintro e w' ⟨rfl,rfl⟩
   exact ⟨_,rfl,rfl,hJ,grefl _⟩
  ·refine RStep.of rfl fun T W hag hJ hd=>?_
   have d21:T.getD 21 undef=_:=hd ⟨7,.data⟩ (by simp) rfl _ rfl
   clear hag hd
   go_simp
   exact ⟨_,rfl,rfl⟩
  ·refine RStep.of rfl fun T W hag hJ hd=>?_
   have d22:T.getD 22 undef=_:=hd ⟨8,.data⟩ (by simp) rfl _ rfl
   refine wp_load_mid 125 (.tmp 22) rfl g' (i*64) d22 (Bs b) _ (fun j v hj=>keepC hJ (HRA.out j v hj)) Tryz.underlying125 rfl (by rw [HBL.out];exact size73) ?_
   exact ⟨_,rfl,rfl,hJ,grefl _⟩
  ·refine RStep.of rfl fun T W hag hJ hd=>?_
   obtain ⟨i0,hi,hz0,hz1,hz2⟩:=info_parts info73
   refine wp_alloc_of 125 rfl i0 _ hi hz0 ?_
   refine ⟨_,rfl,⟨W.heap.size,_,rfl,hJ.size,?_,heap_alloc_new W _⟩,hJ.alloc hJ.size _,World.grownBy_alloc W _ _⟩
   simp [Value.cells]
  ·refine RLast.of rfl fun T W hag hJ hd=>?_
   obtain ⟨q,C,(e8:T.getD 8 undef=_),hq,hCs,hqc⟩:=hd 10 _ (by simp) rfl
   have d23:T.getD 23 undef=_:=hd 9 _ (by simp) rfl
   refine wp_store_mid 125 (.tmp 8) (.tmp 23) rfl q 0 _ e8 d23 (fun j hj=>?_) (by simp only [List.size_toArray,HBL.out];exact size73) (all_oneCell_toArray (Bs_one b)) ?_
   ·simp only [List.size_toArray,HBL.out] at hj
    rw [Nat.zero_add,blk_cell hqc j,blk_free hqc j]
    exact ⟨by rw [Array.getElem?_eq_getElem (by omega)];rfl,rfl⟩
   ·have hblk:=setCells_same q 125 (Bs b) 0 W C.toList (by simpa using hqc) (by rw [HBL.out];simp [hCs])
    rw [splice_all _ _ (by rw [HBL.out];simp [hCs])] at hblk
    have hbel:Below w.heap.size w (W.setCells q 0 (Bs b)) :=
     ((Touch.of_below hJ (fun _=>False)).trans' ((Touch.refl (fun k=>k=q) W).setCells rfl 0 (Bs b)) (fun x hx=>Or.inr (by omega))).below (Nat.le_refl _) (fun k hk=>hk.elim)
    have HM:=Lib.hid (And.intro hq (And.intro hbel hblk))
    obtain ⟨f,hf,hT⟩:=agree_fn hag
    have h8:f 8=_:=(hf 8).trans e8
    generalize (W.setCells q 0 (Bs b))=W2 at *
    clear hag hd d23 e8 hf hqc hblk hbel
    rw [hT]
    clear hT
    simp only [List.filterMap_cons,List.filterMap_nil,List.foldl_cons,List.foldl_nil,List.setIfInBounds_toArray,List.set_cons_succ,List.set_cons_zero,h8]
    rename_i hJc hKc
    go_wp2_with fail
    refine hJc _ _ ?_
    repeat apply Exists.intro
    exact ⟨⟨q,rfl,HM.out⟩,rfl⟩
 case rest =>
  obtain ⟨q,rfl,hq,hb,hc⟩:=hcut
  have HM:=Lib.hid (And.intro hq (And.intro hb hc))
  clear hq hb hc
  go_wp2
  go_ret2
  exact ⟨⟨q,rfl,HM.out.1,HM.out.2.2⟩,HM.out.2.1⟩
theorem read_no {w:World} {O:Nat→DRole} {hp:Nat} {L:DLay} {m:DM} (h:DevAt w O hp L m) (r i:Int) (hr:i64 r) (hi:i64 i) (hb:hasB m r i=false) :
 Calls Tryz.prog 74 #[.pointer (some ⟨hp,0,none⟩),.int .i64 r,.int .i64 i] w fun e w'=>e=.returned (.tuple #[.slice none 0 0,.bool false])∧w=w':=by
 have hB:=Lib.hid (hasBlock_any h r i hr hi)
 rw [hb] at hB
 clear h hb
 go_enter Tryz.func74,Tryz.ntmps74
 go_wp2_with fail
 refine hB.out.mono ?_
 rintro e w' ⟨rfl,rfl⟩
 go_wp2
 go_ret2
 exact ⟨rfl,rfl⟩
theorem read_nil (w:World) (r i:Int) :
 Calls Tryz.prog 74 #[.pointer none,.int .i64 r,.int .i64 i] w fun e w'=>e=.returned (.tuple #[.slice none 0 0,.bool false])∧w=w':=by
 go_enter Tryz.func74,Tryz.ntmps74
 go_wp2_with fail
 refine (hasBlock_nil _ _ _).mono ?_
 rintro e w' ⟨rfl,rfl⟩
 go_wp2
 go_ret2
 exact ⟨rfl,rfl⟩
theorem encB_set (l:List (List Int)) (h:∀ x∈l,x.length=64) (i:Nat) (b:List Int) (hi:i<l.length) (hb:b.length=64):encB (l.set i b)=splice (encB l) (i*64) (Bs b):=by
 unfold splice
 have e1:(encB l).take (i*64)=encB (l.take i):=by
  have h1:encB l=encB (l.take i)++encB (l.drop i):=by unfold encB;rw [← List.flatMap_append,List.take_append_drop]
  have h2:(encB (l.take i)).length=i*64:=by rw [encB_length _ (fun x hx=>h x (List.mem_of_mem_take hx)),List.length_take];congr 1;omega
  rw [h1,← h2,List.take_left]
 have e2:(encB l).drop (i*64+(Bs b).length)=encB (l.drop (i+1)):=by rw [Bs_length,hb,show i*64+64=(i+1)*64 by omega,encB_drop l h]
 rw [e1,e2,List.set_eq_take_append_cons_drop,if_pos hi]
 unfold encB
 rw [List.flatMap_append,List.flatMap_cons]
theorem RowsAt.setBlk {w:World} {OT:Nat→Prop} {OR:Nat→Nat→Prop} {ET ER:TypeId} {v:Value} {rows:List (List (List Int))} (h:RowsAt w OT OR ET ER 64 encB v rows) {r i:Nat} {row:List (List Int)}
 (hr:rows[r]?=some row) (hi:i<row.length) (h64:∀ x∈row,x.length=64) (b:List Int) (hb:b.length=64) {g cap g' n' cap':Nat} (hv:v=.slice (some ⟨g,0,none⟩) rows.length cap)
 (hc:w.cell? ⟨g,r,none⟩=some (.slice (some ⟨g',0,none⟩) n' cap')) (hT:¬ OT g') (hR:∀ r',r'≠r→¬ OR r' g'):RowsAt (w.setCells g' (i*64) (Bs b)) OT OR ET ER 64 encB v (rows.set r (row.set i b)):=by
 obtain ⟨vs,h1,h2⟩:=h
 obtain ⟨u,hu,h3⟩:=h2 r row hr
 subst hv
 have hu2:=h1.one hu
 rw [hu2] at hc
 injection hc with hc
 subst hc
 obtain ⟨_,_,e3,_,_⟩:=h3.val
 injection e3 with _ e3 _
 subst e3
 have oth:∀ k,k≠g'→(w.setCells g' (i*64) (Bs b)).heap[k]?=w.heap[k]?:=fun k hk=>setCells_other g' _ _ _ k hk
 refine ⟨vs,?_,fun r' row' hr'=>?_⟩
 ·rw [List.length_set]
  exact h1.keep fun k _ ho=>oth k (fun e=>hT (e ▸ ho))
 ·by_cases e:r'=r
  ·subst e
   rw [List.getElem?_set_self (List.getElem?_eq_some_iff.1 hr).1] at hr'
   injection hr' with hr'
   subst hr'
   refine ⟨_,hu,?_⟩
   rw [List.length_set,encB_set row h64 i b hi hb]
   exact h3.storedMany (i*64) (Bs b) (by rw [Bs_length,hb];omega)
  ·rw [List.getElem?_set_ne (fun h=>e h.symm)] at hr'
   obtain ⟨u',hu',h4⟩:=h2 r' row' hr'
   exact ⟨u',hu',h4.keep fun k _ ho=>oth k (fun e'=>hR r' e (e' ▸ ho))⟩
theorem Byt.addr {w:World} {A:Option Addr} {bs:List Int} (h:Byt w A bs) (h0:0<bs.length):∃ g o,A=some ⟨g,o,none⟩∧w.rangeAt g o (Bs bs):=by
 obtain ⟨x,hx⟩:∃ x,bs[0]?=some x:=⟨_,List.getElem?_eq_getElem h0⟩
 obtain ⟨⟨g,o,s⟩,rfl,hc⟩:=h 0 x hx
 have hs:s=none:=by
  unfold World.cell? Addr.add at hc
  simp only [if_true] at hc
  cases s with
  | none=>rfl
  | some _=>split at hc <;> simp at hc
 subst hs
 refine ⟨g,o,rfl,fun j v hj=>?_⟩
 have hl:=(List.getElem?_eq_some_iff.1 hj).1
 rw [Bs_length] at hl
 obtain ⟨a,e,h2⟩:=h j _ (List.getElem?_eq_getElem hl)
 injection e with e;subst e
 rw [Addr.add_mid] at h2
 rw [h2]
 unfold Bs at hj
 rw [List.getElem?_map,List.getElem?_eq_getElem hl] at hj
 exact hj
theorem info75:(Tryz.prog.info? 127).map (fun i=>(i.zero,i.size,i.bytes))=some (some (.agg (#[.complex .f64 0 0]++Array.replicate 64 (.int .u8 0))),65,80):=by kernel_rfl
theorem size75:(Tryz.prog.info? 127).map (·.size)=some 65:=by kernel_rfl
theorem built75 (parts:List (Nat × Value)):Tryz.prog.built 127 parts=Instr.fill (#[(0,1),(1,64)][·]?) (#[.complex .f64 0 0]++Array.replicate 64 (.int .u8 0)) parts:=by kernel_rfl
theorem built75_two (r i:Nat) (b:List Int) (hb:b.length=64):Tryz.prog.built 127 [(0,.complex .f64 (Fx.fb r) (Fx.fb i)),(1,.agg (Bs b).toArray)]=some (DWr.cs ⟨r,i,b⟩).toArray:=by
 rw [built75,fill_cons (off:=0) (size:=1) rfl rfl (by simp),fill_cons (off:=1) (size:=64) rfl (by simp [Value.cells,Bs_length,hb]) (by simp [splice,Value.cells])]
 unfold Instr.fill
 congr 1
 unfold splice DWr.cs
 simp [Value.cells,Bs_length,hb]
theorem built75_one (r i:Nat):Tryz.prog.built 127 [(0,.complex .f64 (Fx.fb r) (Fx.fb i))]=some (DWr.cs ⟨r,i,List.replicate 64 0⟩).toArray:=by
 rw [built75,fill_cons (off:=0) (size:=1) rfl rfl (by simp)]
 unfold Instr.fill
 congr 1
theorem wp_build_eq {P:Program} {o:Oper} {a:Act} {w:World} {K:Act→World→Prop} {Q:Exit→Act→World→Prop} (t:TypeId) (parts:Array (Nat × Operand)) (ho:o.op=.build t parts) (cells:Array Value)
 (hf:P.built t (parts.map fun (i,x)=>(i,a.eval x)).toList=some cells) (h:K (a.put o.dst (.agg cells)) w):o.wp P a w K Q:=by
 refine wp_build t parts ho (by rw [hf];rfl) ?_
 rw [hf];exact h
theorem DWr.cs_length {x:DWr} (h:x.b.length=64):x.cs.length=65:=by unfold DWr.cs;simp [Bs_length,h]
theorem DWr.cs_one (x:DWr):∀ u∈x.cs,u.oneCell'=true:=by
 intro u hu
 unfold DWr.cs at hu
 rcases List.mem_cons.1 hu with rfl | hu
 ·rfl
 ·exact Bs_one _ u hu
theorem encW_snoc (l:List DWr) (x:DWr):encW (l++[x])=encW l++x.cs:=by unfold encW;simp
noncomputable def growO (O:Nat→DRole) (B:Nat) (v:Value):Nat→DRole:=fun k=>open Classical in if B≤k∧v.ownBlock=some k then .done else O k
theorem growO_old {O:Nat→DRole} {B:Nat} {v:Value} {k:Nat} (h:k<B):growO O B v k=O k:=by unfold growO;rw [if_neg (fun h'=>by omega)]
theorem DevRaw.push {w w':World} {O:Nat→DRole} {hp:Nat} {L:DLay} {m:DM} (h:DevRaw w O hp L m) (x:DWr) (v:Value)
 (hd:w'.heap[hp]?=some (.cells #[L.sNow,L.sSure,v,L.sUns,.bool m.stops,.int .i64 m.left] 80 (0,0)))
 (hk:∀ k,k<w.heap.size→k≠hp→O k≠.done→w'.heap[k]?=w.heap[k]?)
 (hv:RowAt w' (fun k=>O k=.done∨w.heap.size≤k) 127 65 v (m.done.length+1) (encW m.done++x.cs)) :
 DevRaw w' (growO O w.heap.size v) hp { L with sDone:=v } { m with done:=m.done++[x] } where
 hd:=hd
 ohd:=by rw [growO_old (room_lt h.hd)];exact h.ohd
 now:=(h.now.owner (OT':=fun k=>growO O w.heap.size v k=.nowT) (OR':=fun r k=>growO O w.heap.size v k=.now r) (fun k hk ho=>by rw [growO_old hk];exact ho) (fun r k hk ho=>by rw [growO_old hk];exact ho)).keep fun k hk' ho=>by
  rw [growO_old hk'] at ho
  exact hk k hk' (fun e=>by subst e;have:=h.ohd;rcases ho with ho | ⟨r,ho⟩ <;> rw [ho] at this <;> cases this) (by rcases ho with ho | ⟨r,ho⟩ <;> rw [ho] <;> simp)
 sure:=(h.sure.owner (OT':=fun k=>growO O w.heap.size v k=.sureT) (OR':=fun r k=>growO O w.heap.size v k=.sure r) (fun k hk ho=>by rw [growO_old hk];exact ho) (fun r k hk ho=>by rw [growO_old hk];exact ho)).keep fun k hk' ho=>by
  rw [growO_old hk'] at ho
  exact hk k hk' (fun e=>by subst e;have:=h.ohd;rcases ho with ho | ⟨r,ho⟩ <;> rw [ho] at this <;> cases this) (by rcases ho with ho | ⟨r,ho⟩ <;> rw [ho] <;> simp)
 done:=by
  show RowAt w' _ _ 65 v (m.done++[x]).length (encW (m.done++[x]))
  rw [encW_snoc,List.length_append]
  refine ⟨hv.1,fun g hg=>?_⟩
  rcases hv.2 g hg with h1 | h1
  ·unfold growO;split
   ·rfl
   ·exact h1
  ·unfold growO;rw [if_pos ⟨h1,hg⟩]
 uns:=(h.uns.owner (Own':=fun k=>growO O w.heap.size v k=.uns) (fun k hk ho=>by rw [growO_old hk];exact ho)).keep fun k hk' ho=>by
  rw [growO_old hk'] at ho
  exact hk k hk' (fun e=>by subst e;have:=h.ohd;rw [ho] at this;cases this) (by rw [ho];simp)
theorem growO_some {O:Nat→DRole} {B:Nat} {v:Value} {k:Nat} (h:growO O B v k≠.none):O k≠.none∨(B≤k∧v.ownBlock=some k):=by
 unfold growO at h
 split at h
 ·rename_i h';exact Or.inr h'
 ·exact Or.inl h
def DevStep (w w':World) (F:Nat→Prop) (hp:Nat) (m:DM):Prop:=∃ F',Dev w' F' hp m∧Touch F w w'∧∀ k,F' k→F k∨w.heap.size≤k
end Go.Proofs.YtamnpblijdgdaaaGreat
