/- How routes are held against each other, over the loaded program; a route that came in. No conditions. -/
import Derived.Test.YtmicgkoicmeflaaAl11
import Derived.Laws.StructEq
import Derived.ProofKit
import Derived.ChangeSlices
import Derived.ChangeSame
namespace Go.Proofs.Ytmicgkoicmeflaa
open Go.ChangeShapes Go.WideShapes Go.ChangeAt Go.RowKit

theorem rt_stood : Try.prog.stoodInHeld 32 = false := by kernel_rfl
theorem rt_str : Try.prog.underlying 32 = some (.struct (Try.prog.fieldsOf 32)) := by
  unfold Program.fieldsOf
  rw [Try.underlying32]
abbrev rt5 (a b c d e : Int) : Value := .agg #[.int .u32 a, .int .i64 b, .int .u32 c, .int .i64 d, .int .u32 e]
/-- are two routes alike? -/
def eqI (a b c d e a' b' c' d' e' : Int) : Bool := decide (a = a' ∧ b = b' ∧ c = c' ∧ d = d' ∧ e = e')
set_option maxRecDepth 100000 in
theorem in_rt (n : Nat) (a b c d e a' b' c' d' e' : Int) (w : World) : (Op.equalIn (n + 2) 32 (rt5 a b c d e) (rt5 a' b' c' d' e')).run Try.prog w = .ok (eqI a b c d e a' b' c' d' e') w := by
  rw [run_equalIn_struct w (n + 1) 32 _ _ rt_str rt_stood]
  unfold Program.fieldsOf
  rw [Try.underlying32]
  have u64 := fun (x y : Int) (w : World) => run_equalIn_int w n 3 .i64 .i64 x y Try.underlying3
  have u32 := fun (x y : Int) (w : World) => run_equalIn_int w n 30 .u32 .u32 x y Try.underlying30
  have g64 := Try.isAgg3
  have g32 := Try.isAgg30
  unfold eqI
  simp only [Op.eqFields]
  simp [part, u64, u32, g64, g32]
  by_cases h1 : a = a' <;> by_cases h2 : b = b' <;> by_cases h3 : c = c' <;> by_cases h4 : d = d' <;> by_cases h5 : e = e' <;> simp [h1, h2, h3, h4, h5]
theorem eql_i (a b c d e a' b' c' d' e' : Int) (w : World) : (binOp .eql 32 (rt5 a b c d e) (rt5 a' b' c' d' e')).run Try.prog w = .ok (.bool (eqI a b c d e a' b' c' d' e')) w := by
  rw [run_eql_struct, in_rt 9998 a b c d e a' b' c' d' e' w]
  rfl
theorem neq_i (a b c d e a' b' c' d' e' : Int) (w : World) : (binOp .neq 32 (rt5 a b c d e) (rt5 a' b' c' d' e')).run Try.prog w = .ok (.bool (!eqI a b c d e a' b' c' d' e')) w := by
  rw [run_neq_struct, in_rt 9998 a b c d e a' b' c' d' e' w]
  rfl
theorem eqI_rt (x y : Rt) : eqI (x.n : Int) x.b (x.v : Int) x.c (x.s : Int) (y.n : Int) y.b (y.v : Int) y.c (y.s : Int) = decide (x = y) := by
  unfold eqI
  rw [decide_eq_decide]
  constructor
  · rintro ⟨h1, h2, h3, h4, h5⟩
    exact Rt.ext' (by omega) h2 (by omega) h4 (by omega)
  · rintro rfl
    exact ⟨rfl, rfl, rfl, rfl, rfl⟩
theorem eql_rt (x y : Rt) (w : World) : (binOp .eql 32 (rtV x) (rtV y)).run Try.prog w = .ok (.bool (decide (x = y))) w := by
  rw [← eqI_rt]
  exact eql_i _ _ _ _ _ _ _ _ _ _ w
theorem neq_rt (x y : Rt) (w : World) : (binOp .neq 32 (rtV x) (rtV y)).run Try.prog w = .ok (.bool (!decide (x = y))) w := by
  rw [← eqI_rt]
  exact neq_i _ _ _ _ _ _ _ _ _ _ w
theorem eql_z (w : World) : (binOp .eql 32 rtZ rtZ).run Try.prog w = .ok (.bool true) w := eql_i 0 0 0 0 0 0 0 0 0 0 w

theorem list5 {α : Type} (l : List α) (h : l.length = 5) : ∃ a b c d e, l = [a, b, c, d, e] := match l, h with
  | [a, b, c, d, e], _ => ⟨a, b, c, d, e, rfl⟩
theorem int64b {x : Int} (h : (Lit.int .i64 x).wf = true) : -9223372036854775808 ≤ x ∧ x ≤ 9223372036854775807 := by
  have := bounds_i64 h
  omega
/-- a route that came in -/
def IsRt (v : Value) (r : Rt) : Prop := v = rtV r ∧ Rin r

/-- five cells that read as a route's are a route's -/
theorem rt_of_cells {H : Type} {enc : TypeId × Value → H} {W : World} {n : Nat} {c0 c1 c2 c3 c4 : Value} {y0 y1 y2 y3 y4 : DataW H × List MemPlace}
    (e0 : DataW.trod enc Try.prog W 0 (fun _ => true) true n 30 [c0] = some y0) (e1 : DataW.trod enc Try.prog W 0 (fun _ => true) true n 3 [c1] = some y1) (e2 : DataW.trod enc Try.prog W 0 (fun _ => true) true n 30 [c2] = some y2)
    (e3 : DataW.trod enc Try.prog W 0 (fun _ => true) true n 3 [c3] = some y3) (e4 : DataW.trod enc Try.prog W 0 (fun _ => true) true n 30 [c4] = some y4) : ∃ r : Rt, #[c0, c1, c2, c3, c4] = rtCs r ∧ Rin r := by
  obtain ⟨n0, g0, _, w0⟩ := DataW.trod_int Try.underlying30 e0
  obtain ⟨n1, g1, _, w1⟩ := DataW.trod_int Try.underlying3 e1
  obtain ⟨n2, g2, _, w2⟩ := DataW.trod_int Try.underlying30 e2
  obtain ⟨n3, g3, _, w3⟩ := DataW.trod_int Try.underlying3 e3
  obtain ⟨n4, g4, _, w4⟩ := DataW.trod_int Try.underlying30 e4
  obtain rfl : c0 = .int .u32 n0 := by simpa using g0
  obtain rfl : c1 = .int .i64 n1 := by simpa using g1
  obtain rfl : c2 = .int .u32 n2 := by simpa using g2
  obtain rfl : c3 = .int .i64 n3 := by simpa using g3
  obtain rfl : c4 = .int .u32 n4 := by simpa using g4
  obtain ⟨a, rfl, ha⟩ := nat32 w0
  obtain ⟨c, rfl, hc⟩ := nat32 w2
  obtain ⟨q, rfl, hq⟩ := nat32 w4
  exact ⟨⟨a, n1, c, n3, q⟩, rfl, ⟨ha, (int64b w1).1, (int64b w1).2, hc, (int64b w3).1, (int64b w3).2, hq⟩⟩
set_option maxRecDepth 100000 in
theorem isRt_of {H : Type} {enc : TypeId × Value → H} {W : World} {v : Value} {d : DataW H} {ps : List MemPlace} {base : Nat}
    (hv : Value.okWide Try.prog W .any base 32 v) (h : DataW.Trod enc Try.prog W 0 (fun _ => true) true 32 v d ps) : ∃ r, IsRt v r := by
  obtain ⟨cs, rfl, hsz⟩ := okWide_struct Try.underlying32 hv
  have k5 : Try.prog.cellsOf 32 = 5 := by kernel_rfl
  have k1 : Try.prog.cellsOf 3 = 1 := by kernel_rfl
  have k3 : Try.prog.cellsOf 30 = 1 := by kernel_rfl
  rw [k5] at hsz
  obtain ⟨cl, rfl⟩ : ∃ cl : List Value, cs = cl.toArray := ⟨cs.toList, by simp⟩
  obtain ⟨c0, c1, c2, c3, c4, rfl⟩ := list5 cl (by simpa using hsz)
  obtain ⟨fuel, hf⟩ := h
  obtain ⟨xs, n, _, _, _, hlen, hx⟩ := DataW.trod_struct Try.underlying32 hf
  obtain ⟨y0, y1, y2, y3, y4, rfl⟩ := list5 xs hlen
  have e0 : DataW.trod enc Try.prog W 0 (fun _ => true) true n 30 [c0] = some y0 := by simpa [k3, Value.cells] using hx 0 _ rfl
  have e1 : DataW.trod enc Try.prog W 0 (fun _ => true) true n 3 [c1] = some y1 := by simpa [k1, Value.cells] using hx 1 _ rfl
  have e2 : DataW.trod enc Try.prog W 0 (fun _ => true) true n 30 [c2] = some y2 := by simpa [k3, Value.cells] using hx 2 _ rfl
  have e3 : DataW.trod enc Try.prog W 0 (fun _ => true) true n 3 [c3] = some y3 := by simpa [k1, Value.cells] using hx 3 _ rfl
  have e4 : DataW.trod enc Try.prog W 0 (fun _ => true) true n 30 [c4] = some y4 := by simpa [k3, Value.cells] using hx 4 _ rfl
  obtain ⟨r, hr, hin⟩ := rt_of_cells e0 e1 e2 e3 e4
  refine ⟨r, ?_, hin⟩
  show Value.agg #[c0, c1, c2, c3, c4] = Value.agg (rtCs r)
  rw [hr]
end Go.Proofs.Ytmicgkoicmeflaa
