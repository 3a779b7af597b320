/- For VolAll: contracts and facts, part 35. -/
import Derived.Test.YtamnpblijdgdaaaGreatV34
namespace Go.Proofs.YtamnpblijdgdaaaGreat
open Go.ChangeShapes Go.WideShapes Go.ChangeAt Go.RowKit
set_option linter.unusedVariables false
set_option maxRecDepth 100000
theorem rread_yes2 {w:World} {O:Nat→RRole} {hp:Nat} {L:Nat→Value} {m:RM} (h:RAt w O hp L m.G m.left) (r i:Nat) (hok:m.Ok) {row:List (List Int)} {b:List Int} (hrow:m.seen[r]?=some row) (hb:row[i]?=some b) :
 Calls Tryz.prog 48 #[.pointer (some ⟨hp,0,none⟩),.int .i64 r,.int .i64 i] w fun e w'=>(∃ g c,e=.returned (.tuple #[.slice (some ⟨g,0,none⟩) b.length c,.bool true])∧b.length≤c∧c≤9223372036854775807∧(∃ C fz,w'.heap[g]?=some (.cells C 5 fz))∧Byt w' (some ⟨g,0,none⟩) b)∧Below w.heap.size w w':=by
 have hrl:=(List.getElem?_eq_some_iff.1 hrow).1
 have hil:=(List.getElem?_eq_some_iff.1 hb).1
 have hle:=(hok.rows r row hrow).1
 have hbk:=(hok.rows r row hrow).2.2 b (List.mem_of_getElem? hb)
 have hfew:=hok.few
 have his:m.is r i=true:=by
  unfold RM.is RM.rowLen
  rw [Int.toNat_natCast,List.getD,hrow]
  simp;omega
 have HI:=Lib.hid (is_any h r i (by constructor <;> omega) (by constructor <;> omega) hok)
 rw [his] at HI
 obtain ⟨g,cap,u,hL1,_,_,hcu,_,hru⟩:=h.row (t:=1) (by omega) (G1_at hrow)
 rw [G1_len] at hL1
 obtain ⟨g2,cap2,rfl,_,_,_,_,hcells,_⟩:=hru.pos (by rw [List.length_map];omega)
 rw [List.length_map] at hcu hcells
 rw [flat_str] at hcells
 have hc1:=h.cell 1 (by omega)
 rw [hL1] at hc1
 have hc2:w.cell? ⟨g2,i,none⟩=some (.string (strOfNums b)):=by
  rw [hcells i (by show i<row.length*1;omega)];unfold sv;rw [List.getElem?_map,hb];rfl
 have hri:(r:Int)<m.seen.length:=by omega
 have hii:(i:Int)<row.length:=by omega
 have hcv:∀ w:World,(convert 9 48 (.string (strOfNums b))).run Tryz.prog w=.ok (.slice (some ⟨w.heap.size,0,none⟩) b.length (grownCap w b.length 0 5)) (w.drew.alloc (.cells (bytesRow (strOfNums b) (grownCap w b.length 0 5)) 5 ((bytesRow (strOfNums b) (grownCap w b.length 0 5)).size,(bytesRow (strOfNums b) (grownCap w b.length 0 5)).size+1))):=fun w=>by
  have:=run_bytes_of_string (P:=Tryz.prog) w 9 48 5 (strOfNums b) Tryz.underlying9 Tryz.underlying48 Tryz.underlying5
  rwa [str_size] at this
 have HF:Hid (∀ c fr,Byt (w.drew.alloc (.cells (bytesRow (strOfNums b) c) 5 fr)) (some ⟨w.heap.size,0,none⟩) b):=Lib.hid fun c fr j x hx=>⟨_,rfl,by
  rw [add_at]
  have hn:(w.drew.alloc (.cells (bytesRow (strOfNums b) c) 5 fr)).heap[w.heap.size]?=some (.cells (bytesRow (strOfNums b) c) 5 fr):=heap_alloc_new w.drew _
  rw [blk_cell hn]
  exact nums_at b hbk.2 j x hx c⟩
 have hb64:=hbk.1
 have hg1:b.length≤grownCap w b.length 0 5:=grownCap_ge _ _ _ _
 have hg2:grownCap w b.length 0 5≤9223372036854775807:=by
  have:=grownCap_le_maxLen w b.length 0 5 (by simp only [maxLen];omega)
  simp only [maxLen] at this;omega
 generalize hcc:grownCap w b.length 0 5=cc at *
 have hcv0:=hcv w
 rw [hcc] at hcv0
 have HG:=Lib.hid (And.intro hg1 hg2)
 clear hg1 hg2 hb64
 clear hcv hcc his hru hcells h hok hrow hb hL1 hle hbk
 generalize m.seen.length=n at *
 generalize row.length=rl at *
 generalize b.length=bl at *
 go_enter Tryz.func48,Tryz.ntmps48
 go_wp2_with fail
 refine HI.out.mono ?_;rintro e w' ⟨rfl,rfl⟩
 go_wp2_with fail
 first | go_ret | go_ret2
 exact ⟨⟨_,_,rfl,HG.out.1,HG.out.2,⟨_,_,heap_alloc_new w.drew _⟩,HF.out _ _⟩,(bdn (Below.refl _ _) 1).alloc (Nat.le_refl _) _⟩
theorem rowV_allB {m:DM} (hm:m.Ok) (r i:Int):AllB ((rowV m r i).getD []):=by
 cases hb:hasB m r i
 ·have e0:rowV m r i=none:=by unfold rowV;rw [hb];simp
  rw [e0];intro x hx;cases hx
 ·obtain ⟨rn,j,row,rfl,rfl,hrow,hj⟩:=hasB_row hb
  obtain ⟨b,hbk⟩:∃ b,row[j]?=some b:=⟨_,List.getElem?_eq_getElem hj⟩
  have e0:rowV m rn j=some b:=by unfold rowV;rw [if_pos hb,Int.toNat_natCast,Int.toNat_natCast,List.getD,hrow];exact hbk
  rw [e0]
  exact ((hm.rows _ _ hrow).2 b (List.mem_of_getElem? hbk)).2
theorem RS.readX {w0 W:World} {P:Nat→Prop} {q:Nat} {m:DM} (h:RS w0 W P q m) (r i:Int) (hr:i64 r) (hi:i64 i) :
 Calls Tryz.prog 48 #[.pointer (some ⟨q,0,none⟩),.int .i64 r,.int .i64 i] W fun e w'=>(∃ (A:Option Addr) (d:Nat) (b:Bool),e=.returned (.tuple #[.slice A ((rowV m r i).getD []).length d,.bool b])∧((rowV m r i).getD []).length≤d∧d≤9223372036854775807∧Byt w' A ((rowV m r i).getD []))∧Below W.heap.size W w':=by
 obtain ⟨F,⟨O,L,h1,h2,h3⟩,_,_⟩:=h.dev
 have hok:=h.rel.ok h.ok
 cases hb:hasB m r i
 ·have e0:rowV m r i=none:=by unfold rowV;rw [hb];simp
  rw [e0]
  refine (rread_no h1 r i hr hi hok (by rw [is_has];exact hb)).mono ?_
  rintro e w' ⟨rfl,rfl⟩
  exact ⟨⟨none,0,false,rfl,Nat.le_refl _,by omega,fun i x hi=>by cases hi⟩,Below.refl _ _⟩
 ·obtain ⟨rn,j,row,rfl,rfl,hrow,hj⟩:=hasB_row hb
  obtain ⟨b,hbk⟩:∃ b,row[j]?=some b:=⟨_,List.getElem?_eq_getElem hj⟩
  have e0:rowV m rn j=some b:=by unfold rowV;rw [if_pos hb,Int.toNat_natCast,Int.toNat_natCast,List.getD,hrow];exact hbk
  rw [e0]
  refine (rread_yes2 h1 rn j hok hrow hbk).mono ?_
  rintro e w' ⟨⟨g,c,rfl,hc1,hc2,_,hq⟩,hbel⟩
  exact ⟨⟨_,_,true,rfl,hc1,hc2,hq⟩,hbel⟩
theorem RS.readY {w0 W:World} {P:Nat→Prop} {q:Nat} {m:DM} (h:RS w0 W P q m) (r i:Int) (hr:i64 r) (hi:i64 i) {b:List Int} (hbk0:rowV m r i=some b) :
 Calls Tryz.prog 48 #[.pointer (some ⟨q,0,none⟩),.int .i64 r,.int .i64 i] W fun e w'=>(∃ (p c:Nat),e=.returned (.tuple #[.slice (some ⟨p,0,none⟩) b.length c,.bool true])∧b.length≤c∧c≤9223372036854775807∧(∃ C fz,w'.heap[p]?=some (.cells C 5 fz))∧Byt w' (some ⟨p,0,none⟩) b)∧Below W.heap.size W w':=by
 obtain ⟨F,⟨O,L,h1,h2,h3⟩,_,_⟩:=h.dev
 have hok:=h.rel.ok h.ok
 cases hb:hasB m r i
 ·have e0:rowV m r i=none:=by unfold rowV;rw [hb];simp
  rw [e0] at hbk0;cases hbk0
 ·obtain ⟨rn,j,row,rfl,rfl,hrow,hj⟩:=hasB_row hb
  obtain ⟨b',hbk⟩:∃ b,row[j]?=some b:=⟨_,List.getElem?_eq_getElem hj⟩
  have e0:rowV m rn j=some b':=by unfold rowV;rw [if_pos hb,Int.toNat_natCast,Int.toNat_natCast,List.getD,hrow];exact hbk
  rw [e0] at hbk0
  injection hbk0 with hbk0
  subst hbk0
  refine (rread_yes2 h1 rn j hok hrow hbk).mono ?_
  rintro e w' ⟨⟨g,c,rfl,hc1,hc2,hh,hq⟩,hbel⟩
  exact ⟨⟨_,_,rfl,hc1,hc2,hh,hq⟩,hbel⟩
structure LogR (W:World) (base:Nat) (v:Value) (vs:List Value) (ls:List (List Int)):Prop where
 row:RowAt W (fun k=>base≤k) 48 1 v ls.length vs
 blk:∀ (i:Nat) (b:List Int),ls[i]?=some b→∃ (p c:Nat),vs[i]?=some (.slice (some ⟨p,0,none⟩) b.length c)∧b.length≤c∧c≤9223372036854775807∧(∃ C fz,W.heap[p]?=some (.cells C 5 fz))∧Byt W (some ⟨p,0,none⟩) b
theorem LogR.below {W W':World} {base:Nat} {v:Value} {vs:List Value} {ls:List (List Int)} (h:LogR W base v vs ls) (hb:Below W.heap.size W W'):LogR W' base v vs ls :=
 ⟨h.row.below hb,fun i b hi=>let ⟨p,c,h1,h2,h3,⟨C,fz,h4⟩,h5⟩:=h.blk i b hi;⟨p,c,h1,h2,h3,⟨C,fz,kb hb h4⟩,h5.keep hb⟩⟩
theorem u8_types_ne:(48:TypeId)≠5:=by decide
theorem byt_same {W w3:World} {x:Nat} {b:List Int} (h:Byt W (some ⟨x,0,none⟩) b) (hk:w3.heap[x]?=W.heap[x]?):Byt w3 (some ⟨x,0,none⟩) b:=fun i v hi=>by
 obtain ⟨a,e,hc⟩:=h i v hi
 injection e with e
 subst e
 refine ⟨_,rfl,?_⟩
 rw [World.cell?_of_block (w:=W) (by rw [block_of_add'];exact hk)];exact hc
theorem LogR.push {W w3:World} {base:Nat} {v v':Value} {vs:List Value} {ls:List (List Int)} {b:List Int} {p c:Nat} {o:Obj} (h:LogR W base v vs ls) (hbase:base≤W.heap.size) (hc1:b.length≤c) (hc2:c≤9223372036854775807) (hp:∃ C fz,W.heap[p]?=some (.cells C 5 fz)) (hby:Byt W (some ⟨p,0,none⟩) b)
 (h3:RowAt w3 (fun k=>(fun k=>base≤k) k∨(W.alloc o).heap.size≤k) 48 1 v' (ls.length+1) (vs++[.slice (some ⟨p,0,none⟩) b.length c])) (hg:(W.alloc o).grownBy w3 v.ownBlock):LogR w3 base v' (vs++[.slice (some ⟨p,0,none⟩) b.length c]) (ls++[b]):=by
 have kp:∀ {x:Nat} {C:Array Value} {fz:Nat × Nat},W.heap[x]?=some (.cells C 5 fz)→w3.heap[x]?=W.heap[x]?:=fun {x C fz} hx=>by
  have hl:=room_lt hx
  rw [hg.block x (by simp;omega) (fun e=>?_),Below.heap_alloc W _ x hl]
  rcases h.row.1.2 with ⟨h0,_⟩ | ⟨g,cap,cur,h0,_,q1,_⟩
  ·rw [h0] at e;cases e
  ·rw [h0] at e
   simp [Value.ownBlock] at e
   subst e
   rw [q1] at hx
   injection hx with hx;injection hx with _ hx
   exact absurd hx u8_types_ne
 have hl:=h.row.len
 refine ⟨?_,fun i d hi=>?_⟩
 ·rw [List.length_append]
  exact h3.owner fun x _ hx=>by
   rcases hx with hx | hx
   ·exact hx
   ·simp at hx;omega
 ·by_cases hlt:i<ls.length
  ·rw [List.getElem?_append_left hlt] at hi
   obtain ⟨p',c',h1,h2,h4,⟨C,fz,h5⟩,h6⟩:=h.blk i d hi
   exact ⟨p',c',by rw [List.getElem?_append_left (by omega)];exact h1,h2,h4,⟨C,fz,(kp h5).trans h5⟩,byt_same h6 (kp h5)⟩
  ·rw [List.getElem?_append_right (by omega)] at hi
   have h0:i-ls.length=0:=by
    rcases Nat.eq_zero_or_pos (i-ls.length) with h0 | h0
    ·exact h0
    ·rw [List.getElem?_eq_none (by simp;omega)] at hi;cases hi
   rw [h0] at hi
   injection hi with hi;subst hi
   obtain ⟨C,fz,hp⟩:=hp
   exact ⟨p,c,by rw [List.getElem?_append_right (by omega),show i-vs.length=0 by omega];rfl,hc1,hc2,⟨C,fz,(kp hp).trans hp⟩,byt_same hby (kp hp)⟩
theorem LogR.tx {W:World} {base:Nat} {v:Value} {vs:List Value} {ls:List (List Int)} (h:LogR W base v vs ls):∃ A c,v=.slice A ls.length c∧ls.length≤c∧c≤9223372036854775807∧Tx W A ls:=by
 obtain ⟨A,c,rfl,h1,h2⟩:=h.row.val
 refine ⟨A,c,rfl,h1,h2,fun i b hi=>?_⟩
 obtain ⟨p,d,h3,h4,h5,_,h6⟩:=h.blk i b hi
 have hlt:=(List.getElem?_eq_some_iff.1 hi).1
 obtain ⟨g,cap,he,_,_,_,_,hc,_⟩:=h.row.pos (by omega)
 injection he with e1 e2 e3
 subst e1
 refine ⟨_,some ⟨p,0,none⟩,d,rfl,?_,h4,h5,h6⟩
 rw [add_at,hc i (by omega),h3]
theorem epN_zero {row:Int→Option (List Int)}:∀ k,(epN row k).2=false→(epN row k).1=0
 | 0,_=>rfl
 | k+1,h=>by
   unfold epN at h ⊢
   split
   ·rename_i h1;rw [if_pos h1] at h;cases h
   ·rename_i h1;rw [if_neg h1] at h;exact epN_zero k h
def rvol0 (q mb r n g:Nat) (fr:Int) (ep:Nat) (B:Value):Array Value:=#[.pointer (some ⟨q,0,none⟩),.int .i64 r,.int .i64 0,.int .i64 0,.int .i64 n,.int .i64 g,.int .i64 fr,.int .u8 0,.int .u32 ep,.int .u32 0,.int .i64 0,B,.map (some mb)]
theorem built59 (q mb r n g:Nat) (fr:Int):Tryz.prog.built 59 [(0,.pointer (some ⟨q,0,none⟩)),(1,.int .i64 (r:Int)),(2,shQ 0 0 n g fr),(3,.int .u8 0),(8,.map (some mb))]=some (rvol0 q mb r n g fr 0 (.slice none 0 0)):=by kernel_rfl
end Go.Proofs.YtamnpblijdgdaaaGreat
