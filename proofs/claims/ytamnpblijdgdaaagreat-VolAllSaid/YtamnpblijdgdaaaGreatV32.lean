/- For VolAll: contracts and facts, part 32. -/
import Derived.BigRegion
import Derived.Test.YtamnpblijdgdaaaGreatV31
namespace Go.Proofs.YtamnpblijdgdaaaGreat
open Go.ChangeShapes Go.WideShapes Go.ChangeAt Go.RowKit
set_option linter.unusedVariables false
set_option maxRecDepth 100000
section
variable {w0 W W':World} {Q:Nat→Prop} {hd:Nat} {m m':DM} {hp rb mb cap cm:Nat} {v v':VM}
theorem RSV.own {cm':Nat} (h:RSV w0 W Q hd m hp rb mb cap cm v) (ht:Touch (fun k=>k=hp∨k=rb∨k=mb) W W') (hv:RVAt W' hd hp rb mb cap cm' v'):RSV w0 W' Q hd m hp rb mb cap cm' v'∧Same Q W W' :=
 ⟨⟨h.ds.own ht fun k hk=>by
    rcases hk with rfl | rfl | rfl
    ·exact ⟨Or.inr (Or.inl rfl),h.lo.1⟩
    ·exact ⟨Or.inr (Or.inr (Or.inl rfl)),h.lo.2.1⟩
    ·exact ⟨Or.inr (Or.inr (Or.inr rfl)),h.lo.2.2⟩,hv,h.q,h.ne,h.lo⟩,
  ⟨fun k hk=>ht.block k (h.ds.low k (Or.inl hk)) (by
    rintro (e | e | e)
    ·exact (h.q k hk).1 e
    ·exact (h.q k hk).2.1 e
    ·exact (h.q k hk).2.2 e),ht.size⟩⟩
theorem dirty_set {B:List HB} {k:Nat} {y z:HB} (hk:B[k]?=some y) (hz:z.lg=y.lg):dirtyF (B.set k z)=dirtyF B:=by
 have hl:=(List.getElem?_eq_some_iff.1 hk).1
 funext j
 unfold dirtyF
 by_cases e:j.toNat=k
 ·rw [e,List.getElem?_set_self hl,hk];simp [hz]
 ·rw [List.getElem?_set_ne (fun h=>e h.symm)]
theorem dirty_mark {B:List HB} {k:Nat} {y z:HB} (hk:B[k]?=some y) (hz:z.lg=true):(fun j:Int=>if j=(k:Int) then some (Value.bool true) else dirtyF B j)=dirtyF (B.set k z):=by
 have hl:=(List.getElem?_eq_some_iff.1 hk).1
 funext j
 unfold dirtyF
 by_cases e:j=(k:Int)
 ·rw [if_pos e,e,Int.toNat_natCast,List.getElem?_set_self hl,if_pos ⟨by omega,by simp [hz]⟩]
 ·rw [if_neg e]
  by_cases h0:0≤j
  ·rw [List.getElem?_set_ne (by omega)]
  ·rw [if_neg (fun h=>h0 h.1),if_neg (fun h=>h0 h.1)]
theorem RSV.setB (h:RSV w0 W Q hd m hp rb mb cap cm v) {k:Nat} {y:HB} (hk:v.B[k]?=some y) {c:Int} {bs:List Int} (hc:0≤c∧c≤7) (hl:bs.length=56) (hb:AllB bs):RSV w0 (W.setCells rb (k*57) (blkL c bs)) Q hd m hp rb mb cap cm { v with B:=v.B.set k ⟨c,bs,y.lg⟩ }∧Same Q W (W.setCells rb (k*57) (blkL c bs)):=by
 have hlt:=(List.getElem?_eq_some_iff.1 hk).1
 have hn:=h.at_.ok.len
 have ht:Touch (fun k=>k=rb) W (W.setCells rb (k*57) (blkL c bs)):=(Touch.refl (fun k=>k=rb) W).setCells rfl _ _
 have hk57:(k+1)*57≤v.n*57:=Nat.mul_le_mul_right _ (by omega)
 refine h.own ((Touch.refl (fun k=>k=hp∨k=rb∨k=mb) W).setCells (Or.inr (Or.inl rfl)) _ _) ⟨{ h.at_.ok with len:=by rw [List.length_set];exact h.at_.ok.len,ok:=h.at_.ok.ok.set ⟨hc,hl,hb⟩ },h.at_.pos,?_,?_,?_⟩
 ·rw [ht.block hp (h.ds.low hp (Or.inr (Or.inl rfl))) h.ne.1];exact h.at_.hd_
 ·have h1:=h.at_.row.storedMany (k*57) (blkL c bs) (by rw [blkL_len hl];omega)
  have hs:k<(stV v).length:=by unfold stV;rw [List.length_map];exact hlt
  rw [bksL_set (stV_oks h.at_.ok) (y:=⟨c,bs⟩) hs hl] at h1
  have e:stV { v with B:=v.B.set k ⟨c,bs,y.lg⟩ }=(stV v).set k ⟨c,bs⟩:=by unfold stV;show List.map _ (v.B.set k _)=_;rw [List.map_set];rfl
  rw [e]
  exact h1
 ·show MapI _ mb cm (dirtyF (v.B.set k _))
  rw [dirty_set hk (z:=⟨c,bs,y.lg⟩) rfl]
  exact h.at_.map.keep (ht.block mb h.at_.map.lt (fun e=>h.ne.2.2 e.symm))
theorem RSV.mark (h:RSV w0 W Q hd m hp rb mb cap cm v) {k:Nat} {y:HB} (hk:v.B[k]?=some y) (hc:cm<maxLen) (hk2:k≤1000000):∃ W',(Instr.mapUpdate 57 (.map (some mb)) (.int .i64 (k:Int)) (.bool true)).run Tryz.prog W=.ok () W'∧RSV w0 W' Q hd m hp rb mb cap (cm+1) { v with B:=v.B.set k { y with lg:=true } }∧Same Q W W':=by
 obtain ⟨W',hr,hm,hg⟩:=h.at_.map.put Tryz.underlying57 hc (k:=(k:Int)) (by constructor <;> omega) (by omega) (.bool true)
 have ht:Touch (fun k=>k=mb) W W':=⟨hg.os,hg.tape,hg.output,hg.size,fun i hi hn=>hg.block i hi (fun e=>hn (by injection e))⟩
 have ht3:Touch (fun k=>k=hp∨k=rb∨k=mb) W W':=⟨hg.os,hg.tape,hg.output,hg.size,fun i hi hn=>ht.block i hi (fun e=>hn (Or.inr (Or.inr e)))⟩
 refine ⟨W',hr,h.own ht3 ⟨{ h.at_.ok with len:=by rw [List.length_set];exact h.at_.ok.len,ok:=h.at_.ok.ok.set ⟨(h.at_.ok.ok y (List.mem_of_getElem? hk)).k,(h.at_.ok.ok y (List.mem_of_getElem? hk)).len,(h.at_.ok.ok y (List.mem_of_getElem? hk)).b⟩ },h.at_.pos,?_,?_,?_⟩⟩
 ·rw [ht.block hp (h.ds.low hp (Or.inr (Or.inl rfl))) h.ne.2.1];exact h.at_.hd_
 ·have e:stV { v with B:=v.B.set k { y with lg:=true } }=stV v:=by
   unfold stV;show List.map _ (v.B.set k _)=_;rw [List.map_set]
   exact setSame (by rw [List.getElem?_map,hk];rfl)
  rw [e]
  exact h.at_.row.touch ht (fun k hk e=>h.ne.2.2 (by rw [← hk,e]))
 ·rw [show dirtyF (({ v with B:=v.B.set k { y with lg:=true } }:VM)).B=_ from (dirty_mark hk (z:={ y with lg:=true }) rfl).symm]
  exact hm
end
end Go.Proofs.YtamnpblijdgdaaaGreat
