/- A frame that came in: what a row's reading of it says. -/
import Derived.Test.YtdgjoconppmihaaKit
import Derived.ProofKit
import Derived.ChangeSlices
import Derived.ChangeSame
namespace Go.Proofs.Ytdgjoconppmihaa
open Go.ChangeShapes Go.WideShapes Go.ChangeAt Go.RowKit

theorem list4 {α : Type} (l : List α) (h : l.length = 4) : ∃ a b c d, l = [a, b, c, d] := match l, h with
  | [a, b, c, d], _ => ⟨a, b, c, d, rfl⟩

/-- a frame -/
def IsFrame (v : Value) (t f k : Nat) (d : ByteArray) : Prop := v = .agg #[.int .u64 (t : Int), .int .u64 (f : Int), .int .u16 (k : Int), .string d] ∧ t < 18446744073709551616 ∧ f < 18446744073709551616 ∧ k < 65536 ∧ d.size ≤ maxLen

set_option maxRecDepth 100000 in
theorem isFrame_of {H : Type} {enc : TypeId × Value → H} {W : World} {v : Value} {d : DataW H} {ps : List MemPlace} {base : Nat}
    (hv : Value.okWide Try.prog W .any base 26 v) (h : DataW.Trod enc Try.prog W 0 (fun _ => true) true 26 v d ps) : ∃ t f k s, IsFrame v t f k s := by
  obtain ⟨cs, rfl, hsz⟩ := okWide_struct Try.underlying26 hv
  have k4 : Try.prog.cellsOf 26 = 4 := by kernel_rfl
  have k1 : Try.prog.cellsOf 23 = 1 := by kernel_rfl
  have k2 : Try.prog.cellsOf 24 = 1 := by kernel_rfl
  have k3 : Try.prog.cellsOf 9 = 1 := by kernel_rfl
  rw [k4] at hsz
  obtain ⟨cl, rfl⟩ : ∃ cl : List Value, cs = cl.toArray := ⟨cs.toList, by simp⟩
  obtain ⟨c0, c1, c2, c3, rfl⟩ := list4 cl (by simpa using hsz)
  obtain ⟨fuel, hf⟩ := h
  obtain ⟨xs, n, _, _, _, hlen, hx⟩ := DataW.trod_struct Try.underlying26 hf
  obtain ⟨y0, y1, y2, y3, rfl⟩ := list4 xs hlen
  have e0 : DataW.trod enc Try.prog W 0 (fun _ => true) true n 23 [c0] = some y0 := by simpa [k1, Value.cells] using hx 0 _ rfl
  have e1 : DataW.trod enc Try.prog W 0 (fun _ => true) true n 23 [c1] = some y1 := by simpa [k1, Value.cells] using hx 1 _ rfl
  have e2 : DataW.trod enc Try.prog W 0 (fun _ => true) true n 24 [c2] = some y2 := by simpa [k2, Value.cells] using hx 2 _ rfl
  have e3 : DataW.trod enc Try.prog W 0 (fun _ => true) true n 9 [c3] = some y3 := by simpa [k3, Value.cells] using hx 3 _ rfl
  obtain ⟨n0, g0, _, w0⟩ := DataW.trod_int Try.underlying23 e0
  obtain ⟨n1, g1, _, w1⟩ := DataW.trod_int Try.underlying23 e1
  obtain ⟨n2, g2, _, w2⟩ := DataW.trod_int Try.underlying24 e2
  obtain ⟨s, g3, _, w3⟩ := DataW.trod_string Try.underlying9 e3
  obtain rfl : c0 = .int .u64 n0 := by simpa using g0
  obtain rfl : c1 = .int .u64 n1 := by simpa using g1
  obtain rfl : c2 = .int .u16 n2 := by simpa using g2
  obtain rfl : c3 = .string s := by simpa using g3
  obtain ⟨a, rfl, ha⟩ := nat64 w0
  obtain ⟨b, rfl, hb⟩ := nat64 w1
  obtain ⟨p, rfl, hp⟩ := nat16 w2
  exact ⟨a, b, p, s, rfl, ha, hb, hp, w3⟩

end Go.Proofs.Ytdgjoconppmihaa
