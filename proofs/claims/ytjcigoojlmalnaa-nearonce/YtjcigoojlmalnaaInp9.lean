/- A conf that came in, over the loaded program. -/
import Derived.Test.YtjcigoojlmalnaaAl9
import Derived.ProofKit
import Derived.OpenShut
namespace Go.Proofs.Ytjcigoojlmalnaa
open Go.ChangeShapes Go.WideShapes Go.ChangeAt Go.RowKit

theorem list6 {α : Type} (l : List α) (h : l.length = 6) : ∃ a b c d e f, l = [a, b, c, d, e, f] := match l, h with
  | [a, b, c, d, e, f], _ => ⟨a, b, c, d, e, f, rfl⟩

abbrev cfv (a b c d e f : Int) : Value := .agg #[.int .i64 a, .int .i64 b, .int .i64 c, .int .i64 d, .int .i64 e, .int .i64 f]
def IsConf (v : Value) (a b c d e f : Int) : Prop := v = cfv a b c d e f ∧ (Lit.int .i64 a).wf = true ∧ (Lit.int .i64 b).wf = true ∧ (Lit.int .i64 c).wf = true ∧ (Lit.int .i64 d).wf = true ∧ (Lit.int .i64 e).wf = true ∧ (Lit.int .i64 f).wf = true

set_option maxRecDepth 100000 in
theorem isConf_of {H : Type} {enc : TypeId × Value → H} {W : World} {v : Value} {d : DataW H} {ps : List MemPlace} {base : Nat}
    (hv : Value.okWide Try.prog W .any base 23 v) (h : DataW.Trod enc Try.prog W 0 (fun _ => true) true 23 v d ps) : ∃ a b c d e f, IsConf v a b c d e f := by
  obtain ⟨cs, rfl, hsz⟩ := okWide_struct Try.underlying23 hv
  have k6 : Try.prog.cellsOf 23 = 6 := by kernel_rfl
  have k1 : Try.prog.cellsOf 3 = 1 := by kernel_rfl
  have k2 : Try.prog.cellsOf 2 = 1 := by kernel_rfl
  rw [k6] at hsz
  obtain ⟨cl, rfl⟩ : ∃ cl : List Value, cs = cl.toArray := ⟨cs.toList, by simp⟩
  obtain ⟨c0, c1, c2, c3, c4, c5, rfl⟩ := list6 cl (by simpa using hsz)
  obtain ⟨fuel, hf⟩ := h
  obtain ⟨xs, n, _, _, _, hlen, hx⟩ := DataW.trod_struct Try.underlying23 hf
  obtain ⟨y0, y1, y2, y3, y4, y5, rfl⟩ := list6 xs hlen
  have e0 : DataW.trod enc Try.prog W 0 (fun _ => true) true n 3 [c0] = some y0 := by simpa [k1, Value.cells] using hx 0 _ rfl
  have e1 : DataW.trod enc Try.prog W 0 (fun _ => true) true n 3 [c1] = some y1 := by simpa [k1, Value.cells] using hx 1 _ rfl
  have e2 : DataW.trod enc Try.prog W 0 (fun _ => true) true n 3 [c2] = some y2 := by simpa [k1, Value.cells] using hx 2 _ rfl
  have e3 : DataW.trod enc Try.prog W 0 (fun _ => true) true n 2 [c3] = some y3 := by simpa [k2, Value.cells] using hx 3 _ rfl
  have e4 : DataW.trod enc Try.prog W 0 (fun _ => true) true n 3 [c4] = some y4 := by simpa [k1, Value.cells] using hx 4 _ rfl
  have e5 : DataW.trod enc Try.prog W 0 (fun _ => true) true n 2 [c5] = some y5 := by simpa [k2, Value.cells] using hx 5 _ rfl
  obtain ⟨n0, g0, _, w0⟩ := DataW.trod_int Try.underlying3 e0
  obtain ⟨n1, g1, _, w1⟩ := DataW.trod_int Try.underlying3 e1
  obtain ⟨n2, g2, _, w2⟩ := DataW.trod_int Try.underlying3 e2
  obtain ⟨n3, g3, _, w3⟩ := DataW.trod_int Try.underlying2 e3
  obtain ⟨n4, g4, _, w4⟩ := DataW.trod_int Try.underlying3 e4
  obtain ⟨n5, g5, _, w5⟩ := DataW.trod_int Try.underlying2 e5
  obtain rfl : c0 = .int .i64 n0 := by simpa using g0
  obtain rfl : c1 = .int .i64 n1 := by simpa using g1
  obtain rfl : c2 = .int .i64 n2 := by simpa using g2
  obtain rfl : c3 = .int .i64 n3 := by simpa using g3
  obtain rfl : c4 = .int .i64 n4 := by simpa using g4
  obtain rfl : c5 = .int .i64 n5 := by simpa using g5
  exact ⟨n0, n1, n2, n3, n4, n5, rfl, w0, w1, w2, w3, w4, w5⟩

theorem i64_wf {z : Int} (h : (Lit.int .i64 z).wf = true) : -9223372036854775808 ≤ z ∧ z ≤ 9223372036854775807 := by
  unfold Lit.wf at h
  have h2 : IntKind.i64.min ≤ z ∧ z ≤ 9223372036854775807 := by simpa using h
  have h3 : IntKind.i64.min = -9223372036854775808 := by decide
  omega
/-- what may be -/
theorem conf_cases (a b c d e f : Int) (hc : (Lit.int .i64 c).wf = true) : (∃ k : Cf, k.Ok ∧ a = (k.most : Int) ∧ b = (k.waits : Int) ∧ c = (k.each : Int) ∧ d = (k.known : Int) ∧ e = (k.asks : Int) ∧ f = (k.pause : Int)) ∨ mayB a b c d e f = false := by
  cases h : mayB a b c d e f with
  | false => exact .inr rfl
  | true =>
    unfold mayB at h
    have h := of_decide_eq_true h
    have hc := i64_wf hc
    refine .inl ⟨⟨a.toNat, b.toNat, c.toNat, d.toNat, e.toNat, f.toNat⟩, ⟨?_, ?_, ?_, ?_, ?_, ?_, ?_, ?_, ?_, ?_⟩, ?_, ?_, ?_, ?_, ?_, ?_⟩ <;> simp only <;> omega
end Go.Proofs.Ytjcigoojlmalnaa
