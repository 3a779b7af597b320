/- Plain facts: what is put is taken. -/
import Derived.Test.YtebahdiiokfkfaaGn
namespace Go.Proofs.Ytebahdiiokfkfaa
open Go.ChangeShapes Go.WideShapes Go.ChangeAt Go.RowKit
set_option linter.unusedVariables false
theorem seg_skip_be (x s : Nat) (r : List Int) (o m : Nat) : seg (be x s ++ r) (s + o) m = seg r o m := by
  unfold seg
  have h := be_length x s
  rw [List.drop_append, List.drop_of_length_le (by omega), List.nil_append, h, Nat.add_sub_cancel_left]
theorem seg_head_be (x s : Nat) (r : List Int) : seg (be x s ++ r) 0 s = be x s := by
  unfold seg
  rw [List.drop_zero]
  exact List.take_left' (be_length x s)
theorem pad_bytes (n : Nd) : pad (bytesN n) = be n.g.toNat 4 ++ (be n.l.toNat 2 ++ (be n.s.toNat 4 ++ (be (n.a + 1).toNat 2 ++ (be (n.b + 1).toNat 2 ++ (be (n.c + 1).toNat 2 ++ (be (n.d + 1).toNat 2 ++ (be (n.x + 1).toNat 2 ++ ((n.t.length : Int) :: (n.t ++ List.replicate (56 - (bytesN n).length) 0))))))))) := by
  unfold pad
  generalize List.replicate (56 - (bytesN n).length) (0 : Int) = z
  unfold bytesN frontN headN Nd.ps
  simp only [plB, List.append_assoc, List.append_nil, List.nil_append, List.cons_append]
theorem rd_pad {k : Int} {n : Nd} (h : MayN k n) (hn : NdOk n) : rdT (pad (bytesN n)) = n := by
  have hL := pad_bytes n
  have hpl := fun i hi => h.at_ (i := i) hi
  have hsz := h.sz
  have hl := h.1
  have htl := h.tl
  have hg := hn.g.2
  have v2 : ∀ x : Nat, x < 65536 → numV (be x 2) = x := fun x hx => numV_be 2 x hx
  have v4 : ∀ x : Nat, x < 4294967296 → numV (be x 4) = x := fun x hx => numV_be 4 x hx
  have pa := hpl 0 (by omega); have pb := hpl 1 (by omega); have pc := hpl 2 (by omega); have pd := hpl 3 (by omega); have px := hpl 4 (by omega)
  have s0 : seg (pad (bytesN n)) 0 4 = be n.g.toNat 4 := by rw [hL]; exact seg_head_be _ 4 _
  have s4 : seg (pad (bytesN n)) 4 2 = be n.l.toNat 2 := by rw [hL]; exact (seg_skip_be _ 4 _ 0 2).trans (seg_head_be _ 2 _)
  have s6 : seg (pad (bytesN n)) 6 4 = be n.s.toNat 4 := by rw [hL]; exact (seg_skip_be _ 4 _ 2 4).trans ((seg_skip_be _ 2 _ 0 4).trans (seg_head_be _ 4 _))
  have s10 : seg (pad (bytesN n)) 10 2 = be (n.a + 1).toNat 2 := by rw [hL]; exact (seg_skip_be _ 4 _ 6 2).trans ((seg_skip_be _ 2 _ 4 2).trans ((seg_skip_be _ 4 _ 0 2).trans (seg_head_be _ 2 _)))
  have s12 : seg (pad (bytesN n)) 12 2 = be (n.b + 1).toNat 2 := by rw [hL]; exact (seg_skip_be _ 4 _ 8 2).trans ((seg_skip_be _ 2 _ 6 2).trans ((seg_skip_be _ 4 _ 2 2).trans ((seg_skip_be _ 2 _ 0 2).trans (seg_head_be _ 2 _))))
  have s14 : seg (pad (bytesN n)) 14 2 = be (n.c + 1).toNat 2 := by rw [hL]; exact (seg_skip_be _ 4 _ 10 2).trans ((seg_skip_be _ 2 _ 8 2).trans ((seg_skip_be _ 4 _ 4 2).trans ((seg_skip_be _ 2 _ 2 2).trans ((seg_skip_be _ 2 _ 0 2).trans (seg_head_be _ 2 _)))))
  have s16 : seg (pad (bytesN n)) 16 2 = be (n.d + 1).toNat 2 := by rw [hL]; exact (seg_skip_be _ 4 _ 12 2).trans ((seg_skip_be _ 2 _ 10 2).trans ((seg_skip_be _ 4 _ 6 2).trans ((seg_skip_be _ 2 _ 4 2).trans ((seg_skip_be _ 2 _ 2 2).trans ((seg_skip_be _ 2 _ 0 2).trans (seg_head_be _ 2 _))))))
  have s18 : seg (pad (bytesN n)) 18 2 = be (n.x + 1).toNat 2 := by rw [hL]; exact (seg_skip_be _ 4 _ 14 2).trans ((seg_skip_be _ 2 _ 12 2).trans ((seg_skip_be _ 4 _ 8 2).trans ((seg_skip_be _ 2 _ 6 2).trans ((seg_skip_be _ 2 _ 4 2).trans ((seg_skip_be _ 2 _ 2 2).trans ((seg_skip_be _ 2 _ 0 2).trans (seg_head_be _ 2 _)))))))
  have s20 : ∀ m, seg (pad (bytesN n)) 20 m = seg ((n.t.length : Int) :: (n.t ++ List.replicate (56 - (bytesN n).length) 0)) 0 m := fun m => by
    rw [hL]; exact (seg_skip_be _ 4 _ 16 m).trans ((seg_skip_be _ 2 _ 14 m).trans ((seg_skip_be _ 4 _ 10 m).trans ((seg_skip_be _ 2 _ 8 m).trans ((seg_skip_be _ 2 _ 6 m).trans ((seg_skip_be _ 2 _ 4 m).trans ((seg_skip_be _ 2 _ 2 m).trans (seg_skip_be _ 2 _ 0 m)))))))
  have s21 : ∀ m, seg (pad (bytesN n)) 21 m = seg ((n.t.length : Int) :: (n.t ++ List.replicate (56 - (bytesN n).length) 0)) 1 m := fun m => by
    rw [hL]; exact (seg_skip_be _ 4 _ 17 m).trans ((seg_skip_be _ 2 _ 15 m).trans ((seg_skip_be _ 4 _ 11 m).trans ((seg_skip_be _ 2 _ 9 m).trans ((seg_skip_be _ 2 _ 7 m).trans ((seg_skip_be _ 2 _ 5 m).trans ((seg_skip_be _ 2 _ 3 m).trans (seg_skip_be _ 2 _ 1 m)))))))
  have g20 : (pad (bytesN n)).getD 20 0 = (n.t.length : Int) := by
    have h1 := congrArg (fun l : List Int => l[0]?) (s20 1)
    unfold seg at h1
    simp only [List.getElem?_take, if_pos (show (0 : Nat) < 1 by omega), List.getElem?_drop, Nat.add_zero, List.getElem?_cons_zero] at h1
    rw [List.getD, h1]; rfl
  rw [Nd.ext_iff']
  refine ⟨?_, ?_, ?_, ⟨?_, ?_, ?_, ?_⟩, ?_, ?_⟩
  · show (numV (seg (pad (bytesN n)) 0 4) : Int) = n.g
    rw [s0, v4 _ (by omega)]; omega
  · show (numV (seg (pad (bytesN n)) 4 2) : Int) = n.l
    rw [s4, v2 _ (by omega)]; omega
  · show (numV (seg (pad (bytesN n)) 6 4) : Int) = n.s
    rw [s6, v4 _ (by omega)]; omega
  · show (numV (seg (pad (bytesN n)) 10 2) : Int) - 1 = n.a
    have p1 : -1 ≤ n.a ∧ n.a < 200 := pa
    rw [s10, v2 _ (by omega)]; omega
  · show (numV (seg (pad (bytesN n)) 12 2) : Int) - 1 = n.b
    have p1 : -1 ≤ n.b ∧ n.b < 200 := pb
    rw [s12, v2 _ (by omega)]; omega
  · show (numV (seg (pad (bytesN n)) 14 2) : Int) - 1 = n.c
    have p1 : -1 ≤ n.c ∧ n.c < 200 := pc
    rw [s14, v2 _ (by omega)]; omega
  · show (numV (seg (pad (bytesN n)) 16 2) : Int) - 1 = n.d
    have p1 : -1 ≤ n.d ∧ n.d < 200 := pd
    rw [s16, v2 _ (by omega)]; omega
  · show (numV (seg (pad (bytesN n)) 18 2) : Int) - 1 = n.x
    have p1 : -1 ≤ n.x ∧ n.x < 200 := px
    rw [s18, v2 _ (by omega)]; omega
  · show seg (pad (bytesN n)) 21 ((pad (bytesN n)).getD 20 0).toNat = n.t
    rw [g20, Int.toNat_natCast, s21]
    unfold seg
    rw [List.drop_succ_cons, List.drop_zero]
    exact List.take_left
theorem taken_pad {k : Int} {n : Nd} (h : MayN k n) (hn : NdOk n) : Taken k (pad (bytesN n)) ∧ takeN k (pad (bytesN n)) = n := by
  have hr := rd_pad h hn
  have htl := h.tl
  have g20 : (pad (bytesN n)).getD 20 0 ≤ 32 := by
    have e := congrArg Nd.t hr
    have e2 : seg (pad (bytesN n)) 21 ((pad (bytesN n)).getD 20 0).toNat = n.t := e
    have hL := pad_bytes n
    have h20 : (pad (bytesN n))[20]? = some (n.t.length : Int) := by
      unfold pad bytesN frontN
      have hl : (headN n ++ plB n.ps).length = 20 := by rw [List.length_append, headN_length, plB_length]; rfl
      rw [List.append_assoc, List.append_assoc, List.getElem?_append_right (by omega), hl]
      rfl
    rw [List.getD, h20]
    show (n.t.length : Int) ≤ 32
    omega
  have ht : Taken k (pad (bytesN n)) := ⟨g20, by rw [hr]; exact h, by rw [hr]⟩
  exact ⟨ht, by unfold takeN; rw [if_pos ht, hr]⟩
end Go.Proofs.Ytebahdiiokfkfaa
