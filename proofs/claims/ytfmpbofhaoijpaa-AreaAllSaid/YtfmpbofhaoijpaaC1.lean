/- Configs as they lie in memory; contracts: Same, mayShare, has. -/
import Derived.Test.YtfmpbofhaoijpaaT9
import Derived.Test.YtfmpbofhaoijpaaQT
import Derived.LoopTactic
import Derived.Laws.StructEq
namespace Go.Proofs.Ytfmpbofhaoijpaa
open Go.ChangeShapes Go.WideShapes Go.ChangeAt Go.RowKit
set_option linter.unusedVariables false
structure Sh where
  (l c b g f : Int)
deriving DecidableEq
def Sh.agg (s : Sh) : Value := .agg #[.int .i64 s.l, .int .i64 s.c, .int .i64 s.b, .int .i64 s.g, .int .i64 s.f]
/-- A share lies at a place. -/
structure ShAt (w : World) (p : Addr) (s : Sh) : Prop where
  c0 : w.cell? p = some (.int .i64 s.l)
  c1 : w.cell? ⟨p.block, p.off + 1, none⟩ = some (.int .i64 s.c)
  c2 : w.cell? ⟨p.block, p.off + 2, none⟩ = some (.int .i64 s.b)
  c3 : w.cell? ⟨p.block, p.off + 3, none⟩ = some (.int .i64 s.g)
  c4 : w.cell? ⟨p.block, p.off + 4, none⟩ = some (.int .i64 s.f)
/-- A config lies behind a slice. -/
def Conf (w : World) (A : Option Addr) (cs : List Sh) : Prop := ∀ i s, cs[i]? = some s → ∃ a, A = some a ∧ ShAt w (a.add (i * 5)) s
theorem ShAt.keep {w w' : World} {p : Addr} {s : Sh} (h : ShAt w p s) (hb : Below w.heap.size w w') : ShAt w' p s :=
  have k : ∀ {q : Addr} {v : Value}, w.cell? q = some v → w'.cell? q = some v := fun {q v} hq => by rw [hb.cell (World.block_lt_of_cell? w q hq)]; exact hq
  ⟨k h.c0, k h.c1, k h.c2, k h.c3, k h.c4⟩
theorem Conf.keep {w w' : World} {A : Option Addr} {cs : List Sh} (h : Conf w A cs) (hb : Below w.heap.size w w') : Conf w' A cs := fun i s hi =>
  let ⟨a, e, hs⟩ := h i s hi; ⟨a, e, hs.keep hb⟩
theorem Conf.at_ {w : World} {A : Option Addr} {cs : List Sh} (h : Conf w A cs) {k : Nat} (hk : k < cs.length) : ∃ a s, A = some a ∧ RowKit.Hid (cs[k]? = some s) ∧ ShAt w (a.add (k * 5)) s :=
  let ⟨a, e, hs⟩ := h k _ (List.getElem?_eq_getElem hk); ⟨a, _, e, Lib.hid (List.getElem?_eq_getElem hk), hs⟩
theorem eq_bools (x y : Sh) : (x == y) = ((x.l == y.l) && (x.c == y.c) && (x.b == y.b) && (x.g == y.g) && (x.f == y.f)) := by
  cases x; cases y; rw [Bool.eq_iff_iff]; simp [and_assoc]
theorem run_neq_struct {P : Program} (w : World) (t : TypeId) (xs ys : Array Value) : (binOp .neq t (.agg xs) (.agg ys)).run P w = ((Op.equalIn 10000 t (.agg xs) (.agg ys)).run P w).andThen fun b w' => .ok (.bool (!b)) w' := by
  simp only [binOp]
  simp [Op.equal, Op.maxDepth]
theorem in45 (d : Nat) (a b a' b' : Int) (w : World) : (Op.equalIn (d + 1 + 1) 33 (.agg #[.int .i64 a, .int .i64 b]) (.agg #[.int .i64 a', .int .i64 b'])).run Try.prog w = .ok ((a == a') && (b == b')) w := by
  have u3 := Try.underlying3
  have a3 := Try.isAgg3
  have z3 := Try.sizeOf3
  have hS : Try.prog.underlying 33 = some (.struct (Try.prog.fieldsOf 33)) := by kernel_rfl
  have hp : Try.prog.stoodInHeld 33 = false := by kernel_rfl
  rw [run_equalIn_agg w (d + 1) 33 _ _ hS hp]
  clear hS hp
  simp only [Program.fieldsOf, Try.underlying33]
  go_simp
  by_cases h1 : a = a' <;> by_cases h2 : b = b' <;> simp [h1, h2]
theorem in47 (d : Nat) (a b c f e a' b' c' f' e' : Int) (w : World) : (Op.equalIn (d + 1 + 1 + 1) 35 (.agg #[.int .i64 a, .int .i64 b, .int .i64 c, .int .i64 f, .int .i64 e]) (.agg #[.int .i64 a', .int .i64 b', .int .i64 c', .int .i64 f', .int .i64 e'])).run Try.prog w = .ok ((a == a') && (b == b') && (c == c') && (f == f') && (e == e')) w := by
  have u3 := Try.underlying3
  have a3 := Try.isAgg3
  have z3 := Try.sizeOf3
  have a45 := Try.isAgg33
  have z45 := Try.sizeOf33
  have hS : Try.prog.underlying 35 = some (.struct (Try.prog.fieldsOf 35)) := by kernel_rfl
  have hp : Try.prog.stoodInHeld 35 = false := by kernel_rfl
  have e45 := in45 d
  rw [run_equalIn_agg w (d + 1 + 1) 35 _ _ hS hp]
  clear hS hp
  simp only [Program.fieldsOf, Try.underlying35]
  go_simp
  by_cases h1 : a = a' <;> by_cases h2 : b = b' <;> by_cases h3 : c = c' <;> by_cases h4 : f = f' <;> by_cases h5 : e = e' <;> simp [h1, h2, h3, h4, h5]
theorem eql45 (a b a' b' : Int) (w : World) : (binOp .eql 33 (.agg #[.int .i64 a, .int .i64 b]) (.agg #[.int .i64 a', .int .i64 b'])).run Try.prog w = .ok (.bool ((a == a') && (b == b'))) w := by
  rw [run_eql_struct, show (10000 : Nat) = 9998 + 1 + 1 from rfl, in45]; rfl
theorem eql47 (s t : Sh) (w : World) : (binOp .eql 35 s.agg t.agg).run Try.prog w = .ok (.bool (s == t)) w := by
  unfold Sh.agg
  rw [run_eql_struct, show (10000 : Nat) = 9997 + 1 + 1 + 1 from rfl, in47, eq_bools]; rfl
theorem neq47 (s t : Sh) (w : World) : (binOp .neq 35 s.agg t.agg).run Try.prog w = .ok (.bool (!(s == t))) w := by
  unfold Sh.agg
  rw [run_neq_struct, show (10000 : Nat) = 9997 + 1 + 1 + 1 from rfl, in47, eq_bools]; rfl
/-! ### mayShare -/
def mayShV (s : Sh) : Bool := mayV s.l s.c && decide (4 ≤ s.b) && decide (s.b ≤ 200) && decide (16 ≤ s.g) && decide (s.g ≤ 100) && decide (1 ≤ s.f) && decide (s.f ≤ 50)
def ShOk (s : Sh) : Prop := i64 s.l ∧ i64 s.c
theorem mayShare_any (s : Sh) (h : ShOk s) (w : World) :
    Calls Try.prog 20 #[s.agg] w fun e w' => e = .returned (.bool (mayShV s)) ∧ Below w.heap.size w w' := by
  obtain ⟨l, c, b, g, f⟩ := s
  obtain ⟨hl, hc⟩ := h
  unfold Sh.agg mayShV
  dsimp only at hl hc ⊢
  have H := fun w => may_all l c w hl hc
  generalize mayV l c = mv at *
  go_enter Try.func20, Try.ntmps20
  go_wp2_with fail
  refine (H _).mono ?_; rintro e w' ⟨rfl, hb⟩
  have k2 := keep hb (b := w.heap.size) (o := 2) (v := .int .i64 b) (by simp [go_sem])
  have k3 := keep hb (b := w.heap.size) (o := 3) (v := .int .i64 g) (by simp [go_sem])
  have k4 := keep hb (b := w.heap.size) (o := 4) (v := .int .i64 f) (by simp [go_sem])
  have hB := ((Below.refl w.heap.size w).alloc (Nat.le_refl _) _).trans (hb.mono (by simp))
  clear hb H
  go_wp2
  all_goals (go_ret; exact ⟨by first | (simp [*]; done) | (simp [*]; omega), hB⟩)
/-! ### has -/
def isV (l c : Int) (s : Sh) : Bool := (s.l == l) && (s.c == c)
theorem lit_any (p : Addr) (l c : Int) (s : Sh) (w : World) (h0 : w.cell? p = some (.int .i64 l)) (h1 : w.cell? ⟨p.block, p.off + 1, none⟩ = some (.int .i64 c)) :
    Calls Try.prog 25 #[s.agg, .pointer (some p)] w fun e w' => e = .returned (.bool (isV l c s)) ∧ Below w.heap.size w w' := by
  have hp := World.block_lt_of_cell? w p h0
  have he := eql45 s.l s.c l c
  unfold Sh.agg isV
  go_enter Try.func25, Try.ntmps25
  have k0 := keepA h0 (Obj.cells #[.int .i64 s.l, .int .i64 s.c, .int .i64 s.b, .int .i64 s.g, .int .i64 s.f] 35)
  have k1 := keepA h1 (Obj.cells #[.int .i64 s.l, .int .i64 s.c, .int .i64 s.b, .int .i64 s.g, .int .i64 s.f] 35)
  go_wp2
  go_ret
  exact ⟨rfl, (Below.refl _ _).alloc (Nat.le_refl _) _⟩
def findV (l c : Int) (cs : List Sh) : Int := match cs.findIdx? (isV l c) with | some i => i | none => -1
set_option maxHeartbeats 800000 in
theorem index_any (A : Option Addr) (cs : List Sh) (d : Nat) (p : Addr) (l c : Int) (w : World) (hx : cs.length ≤ 1000000) (ha : Conf w A cs)
    (h0 : w.cell? p = some (.int .i64 l)) (h1 : w.cell? ⟨p.block, p.off + 1, none⟩ = some (.int .i64 c)) :
    Calls Try.prog 28 #[.slice A cs.length d, .func (.func 25) #[] #[.pointer (some p)]] w fun e w' => ∃ r : Int, e = .returned (.int .i64 r) ∧ (decide (0 ≤ r) = cs.any (isV l c)) ∧ Below w.heap.size w w' := by
  generalize hn : cs.length = n at *
  have HN := Lib.hid hn
  clear hn
  go_enter Try.func28, Try.ntmps28
  go_wp2
  go_loopw [8] (fun i wr => ∃ k : Nat, k ≤ n ∧ i = .int .i64 k ∧ (cs.take k).any (isV l c) = false ∧ Below w.heap.size w wr) (fun i _ => n - (intOf i).toNat)
  case atStart => exact ⟨0, Nat.zero_le _, rfl, rfl, Below.refl _ _⟩
  case round =>
    obtain ⟨k, hk, rfl, ht, hB⟩ := hrel
    have HT := Lib.hid ht
    clear ht
    by_cases hlt : k < n
    · obtain ⟨a, x, rfl, hsx, hsa⟩ := (ha.keep hB).at_ (k := k) (by rw [HN.out]; exact hlt)
      have g0 := hsa.c0
      have g1 := hsa.c1
      have g2 := hsa.c2
      have g3 := hsa.c3
      have g4 := hsa.c4
      have H0 := Lib.hid (show wr.cell? p = _ from keepC hB h0)
      have H1 := Lib.hid (show wr.cell? ⟨p.block, p.off + 1, none⟩ = _ from keepC hB h1)
      clear hsa ha h0 h1
      have HL := Lib.hid (fun (s : Sh) => lit_any p l c s wr H0.out H1.out)
      by_cases hv : isV l c x = true
      · have HV := Lib.hid hv
        clear hv
        go_wp2_with fail
        refine (HL.out x).mono ?_
        rintro e w1 ⟨rfl, hb⟩
        rw [HV.out]
        go_wp2_with fail
        go_ret
        refine ⟨k, rfl, ?_, hB.trans (hb.mono hB.size)⟩
        rw [decide_eq_true (by omega), Eq.comm, List.any_eq_true]
        exact ⟨x, List.mem_of_getElem? hsx.out, HV.out⟩
      · have HV := Lib.hid (show isV l c x = false by simpa using hv)
        clear hv
        go_wp2_with fail
        refine (HL.out x).mono ?_
        rintro e w1 ⟨rfl, hb⟩
        rw [HV.out]
        go_wp2_with fail
        go_roundw
        case rel => exact ⟨k + 1, by omega, by go_num, by rw [take_snoc' hsx.out, List.any_append, HT.out]; simp [HV.out], hB.trans (hb.mono hB.size)⟩
        case measure => simp [intOf]; omega
    · go_wp2
      go_ret
      refine ⟨-1, rfl, ?_, hB⟩
      have h := HT.out
      rw [List.take_of_length_le (by rw [HN.out]; omega)] at h
      rw [h]; rfl
theorem contains_any (A : Option Addr) (cs : List Sh) (d : Nat) (p : Addr) (l c : Int) (w : World) (hx : cs.length ≤ 1000000) (ha : Conf w A cs)
    (h0 : w.cell? p = some (.int .i64 l)) (h1 : w.cell? ⟨p.block, p.off + 1, none⟩ = some (.int .i64 c)) :
    Calls Try.prog 24 #[.slice A cs.length d, .func (.func 25) #[] #[.pointer (some p)]] w fun e w' => e = .returned (.bool (cs.any (isV l c))) ∧ Below w.heap.size w w' := by
  have H := Lib.hid (index_any A cs d p l c w hx ha h0 h1)
  clear h0 h1 ha
  generalize cs.any (isV l c) = bb at *
  go_enter Try.func24, Try.ntmps24
  go_wp2_with fail
  refine H.out.mono ?_
  rintro e w' ⟨r, rfl, hr, hb⟩
  have HR := Lib.hid hr
  clear hr
  go_wp2_with fail
  go_ret
  exact ⟨ret_bool HR.out, hb⟩
theorem has_any (A : Option Addr) (cs : List Sh) (d : Nat) (l c : Int) (w : World) (hx : cs.length ≤ 1000000) (ha : Conf w A cs) :
    Calls Try.prog 21 #[.slice A cs.length d, .agg #[.int .i64 l, .int .i64 c]] w fun e w' => e = .returned (.bool (cs.any (isV l c))) ∧ Below w.heap.size w w' := by
  have H := Lib.hid (contains_any A cs d ⟨w.heap.size, 0, none⟩ l c (w.alloc (Obj.cells #[.int .i64 l, .int .i64 c] 33)) hx (ha.keep ((Below.refl _ _).alloc (Nat.le_refl _) _)) (by simp [go_sem]) (by simp [go_sem]))
  clear ha
  generalize cs.any (isV l c) = bb at *
  go_enter Try.func21, Try.ntmps21
  go_wp2_with fail
  refine H.out.mono ?_
  rintro e w' ⟨rfl, hb⟩
  go_wp2_with fail
  go_ret
  exact ⟨rfl, ((Below.refl w.heap.size w).alloc (Nat.le_refl _) _).trans (hb.mono (by simp))⟩
end Go.Proofs.Ytfmpbofhaoijpaa
