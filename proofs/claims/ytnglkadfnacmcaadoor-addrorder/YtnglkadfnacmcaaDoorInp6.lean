/- A pair that came in: what a row's reading of it says. -/
import Derived.Test.YtnglkadfnacmcaaDoorKit
import Derived.ProofKit
import Derived.ChangeSlices
import Derived.ChangeSame
namespace Go.Proofs.YtnglkadfnacmcaaDoor
open Go.ChangeShapes Go.WideShapes Go.ChangeAt Go.RowKit

theorem list4 {α : Type} (l : List α) (h : l.length = 4) : ∃ a b c d, l = [a, b, c, d] := match l, h with
  | [a, b, c, d], _ => ⟨a, b, c, d, rfl⟩

/-- a pair of addresses and ports -/
def IsPair (v : Value) (a p b q : Nat) : Prop := v = .agg #[.int .u32 (a : Int), .int .u16 (p : Int), .int .u32 (b : Int), .int .u16 (q : Int)] ∧ a < 4294967296 ∧ p < 65536 ∧ b < 4294967296 ∧ q < 65536
set_option maxRecDepth 100000 in
theorem isPair_of {H : Type} {enc : TypeId × Value → H} {W : World} {v : Value} {d : DataW H} {ps : List MemPlace} {base : Nat}
    (hv : Value.okWide Tryd.prog W .any base 36 v) (h : DataW.Trod enc Tryd.prog W 0 (fun _ => true) true 36 v d ps) : ∃ a p b q, IsPair v a p b q := by
  obtain ⟨cs, rfl, hsz⟩ := okWide_struct Tryd.underlying36 hv
  have k4 : Tryd.prog.cellsOf 36 = 4 := by kernel_rfl
  have k2 : Tryd.prog.cellsOf 34 = 2 := by kernel_rfl
  have k1 : Tryd.prog.cellsOf 22 = 1 := by kernel_rfl
  have k0 : Tryd.prog.cellsOf 32 = 1 := by kernel_rfl
  rw [k4] at hsz
  obtain ⟨cl, rfl⟩ : ∃ cl : List Value, cs = cl.toArray := ⟨cs.toList, by simp⟩
  obtain ⟨c0, c1, c2, c3, rfl⟩ := list4 cl (by simpa using hsz)
  obtain ⟨fuel, hf⟩ := h
  obtain ⟨y0, y1, n, _, _, t0, t1⟩ := trod_struct2 Tryd.underlying36 hf
  have t0' : DataW.trod enc Tryd.prog W 0 (fun _ => true) true n 34 [c0, c1] = some y0 := by
    have := t0
    simpa [k2, Value.cells] using this
  have t1' : DataW.trod enc Tryd.prog W 0 (fun _ => true) true n 34 [c2, c3] = some y1 := by
    have := t1
    simpa [k2, Value.cells] using this
  obtain ⟨z0, z1, m, _, _, s0, s1⟩ := trod_struct2 Tryd.underlying34 t0'
  obtain ⟨z2, z3, m', _, _, s2, s3⟩ := trod_struct2 Tryd.underlying34 t1'
  have e0 : DataW.trod enc Tryd.prog W 0 (fun _ => true) true m 22 [c0] = some z0 := by simpa [k1] using s0
  have e1 : DataW.trod enc Tryd.prog W 0 (fun _ => true) true m 32 [c1] = some z1 := by simpa [k0] using s1
  have e2 : DataW.trod enc Tryd.prog W 0 (fun _ => true) true m' 22 [c2] = some z2 := by simpa [k1] using s2
  have e3 : DataW.trod enc Tryd.prog W 0 (fun _ => true) true m' 32 [c3] = some z3 := by simpa [k0] using s3
  obtain ⟨n0, g0, _, w0⟩ := DataW.trod_int Tryd.underlying22 e0
  obtain ⟨n1, g1, _, w1⟩ := DataW.trod_int Tryd.underlying32 e1
  obtain ⟨n2, g2, _, w2⟩ := DataW.trod_int Tryd.underlying22 e2
  obtain ⟨n3, g3, _, w3⟩ := DataW.trod_int Tryd.underlying32 e3
  obtain rfl : c0 = .int .u32 n0 := by simpa using g0
  obtain rfl : c1 = .int .u16 n1 := by simpa using g1
  obtain rfl : c2 = .int .u32 n2 := by simpa using g2
  obtain rfl : c3 = .int .u16 n3 := by simpa using g3
  obtain ⟨a, rfl, ha⟩ := nat32 w0
  obtain ⟨p, rfl, hp⟩ := nat16 w1
  obtain ⟨b, rfl, hb⟩ := nat32 w2
  obtain ⟨q, rfl, hq⟩ := nat16 w3
  exact ⟨a, p, b, q, rfl, ha, hp, hb, hq⟩

end Go.Proofs.YtnglkadfnacmcaaDoor
