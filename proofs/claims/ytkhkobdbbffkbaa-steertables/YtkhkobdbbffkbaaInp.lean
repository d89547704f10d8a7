/- A pair, and slices of numbers, that came in: what a row's reading of them says. -/
import Derived.Test.YtkhkobdbbffkbaaKit
import Derived.ProofKit
import Derived.ChangeSlices
import Derived.ChangeSame
namespace Go.Proofs.Ytkhkobdbbffkbaa
open Go.ChangeShapes Go.WideShapes Go.ChangeAt Go.RowKit

theorem list4 {α : Type} (l : List α) (h : l.length = 4) : ∃ a b c d, l = [a, b, c, d] := match l, h with
  | [a, b, c, d], _ => ⟨a, b, c, d, rfl⟩

/-- a pair of addresses and ports -/
def IsPair (v : Value) (a p b q : Nat) : Prop := v = .agg #[.int .u32 (a : Int), .int .u16 (p : Int), .int .u32 (b : Int), .int .u16 (q : Int)] ∧ a < 4294967296 ∧ p < 65536 ∧ b < 4294967296 ∧ q < 65536
theorem isPair_of {H : Type} {enc : TypeId × Value → H} {W : World} {v : Value} {d : DataW H} {ps : List MemPlace} {base : Nat}
    (hv : Value.okWide Try.prog W .any base 27 v) (h : DataW.Trod enc Try.prog W 0 (fun _ => true) true 27 v d ps) : ∃ a p b q, IsPair v a p b q := by
  obtain ⟨cs, rfl, hsz⟩ := okWide_struct Try.underlying27 hv
  have k4 : Try.prog.cellsOf 27 = 4 := by kernel_rfl
  have k2 : Try.prog.cellsOf 25 = 2 := by kernel_rfl
  have k1 : Try.prog.cellsOf 22 = 1 := by kernel_rfl
  have k0 : Try.prog.cellsOf 23 = 1 := by kernel_rfl
  rw [k4] at hsz
  obtain ⟨cl, rfl⟩ : ∃ cl : List Value, cs = cl.toArray := ⟨cs.toList, by simp⟩
  obtain ⟨c0, c1, c2, c3, rfl⟩ := list4 cl (by simpa using hsz)
  obtain ⟨fuel, hf⟩ := h
  obtain ⟨y0, y1, n, _, _, t0, t1⟩ := trod_struct2 Try.underlying27 hf
  have t0' : DataW.trod enc Try.prog W 0 (fun _ => true) true n 25 [c0, c1] = some y0 := by
    have := t0
    simpa [k2, Value.cells] using this
  have t1' : DataW.trod enc Try.prog W 0 (fun _ => true) true n 25 [c2, c3] = some y1 := by
    have := t1
    simpa [k2, Value.cells] using this
  obtain ⟨z0, z1, m, _, _, s0, s1⟩ := trod_struct2 Try.underlying25 t0'
  obtain ⟨z2, z3, m', _, _, s2, s3⟩ := trod_struct2 Try.underlying25 t1'
  have e0 : DataW.trod enc Try.prog W 0 (fun _ => true) true m 22 [c0] = some z0 := by simpa [k1] using s0
  have e1 : DataW.trod enc Try.prog W 0 (fun _ => true) true m 23 [c1] = some z1 := by simpa [k0] using s1
  have e2 : DataW.trod enc Try.prog W 0 (fun _ => true) true m' 22 [c2] = some z2 := by simpa [k1] using s2
  have e3 : DataW.trod enc Try.prog W 0 (fun _ => true) true m' 23 [c3] = some z3 := by simpa [k0] using s3
  obtain ⟨n0, g0, _, w0⟩ := DataW.trod_int Try.underlying22 e0
  obtain ⟨n1, g1, _, w1⟩ := DataW.trod_int Try.underlying23 e1
  obtain ⟨n2, g2, _, w2⟩ := DataW.trod_int Try.underlying22 e2
  obtain ⟨n3, g3, _, w3⟩ := DataW.trod_int Try.underlying23 e3
  obtain rfl : c0 = .int .u32 n0 := by simpa using g0
  obtain rfl : c1 = .int .u16 n1 := by simpa using g1
  obtain rfl : c2 = .int .u32 n2 := by simpa using g2
  obtain rfl : c3 = .int .u16 n3 := by simpa using g3
  obtain ⟨a, rfl, ha⟩ := nat32 w0
  obtain ⟨p, rfl, hp⟩ := nat16 w1
  obtain ⟨b, rfl, hb⟩ := nat32 w2
  obtain ⟨q, rfl, hq⟩ := nat16 w3
  exact ⟨a, p, b, q, rfl, ha, hp, hb, hq⟩

/-- the numbers of a slice -/
def IsNums (k : IntKind) (w : World) (v : Value) (l : List Int) : Prop :=
  (((∃ a c, v = .slice a 0 c) ∧ l = []) ∨ ∃ b off c, v = .slice (some ⟨b, off, none⟩) l.length c ∧ l.length ≤ c ∧ b < w.heap.size ∧ ∀ j, j < l.length → w.cell? ⟨b, off + j, none⟩ = some (.int k (l.getD j 0))) ∧
  l.length ≤ maxLen ∧ ∀ x ∈ l, (Lit.int k x).wf = true
theorem cell_lt {W : World} {a : Addr} {v : Value} (h : W.cell? a = some v) : a.block < W.heap.size := by
  apply Classical.byContradiction
  intro hn
  have e : W.heap[a.block]? = none := Array.getElem?_eq_none (by omega)
  unfold World.cell? at h
  rw [e] at h
  simp at h
theorem isNums_of {H : Type} {enc : TypeId × Value → H} {W : World} {k : IntKind} {t e : TypeId} {a0 : Option Addr} {len0 cap0 : Nat} {d : DataW H} {ps : List MemPlace}
    (ht : Try.prog.underlying t = some (.slice e)) (he : Try.prog.underlying e = some (.int k)) (hc : Try.prog.cellsOf e = 1)
    (h : DataW.Trod enc Try.prog W 0 (fun _ => true) true t (.slice a0 len0 cap0) d ps) : ∃ l, IsNums k W (.slice a0 len0 cap0) l := by
  obtain ⟨fuel, hf⟩ := h
  rcases open_ints ht he hc hf with ⟨hcs, _⟩ | ⟨a, len, cap, zs, hcs, _, hl, hm, hz, _, hcell, hw⟩
  · simp [Value.cells] at hcs
    obtain ⟨rfl, rfl, rfl⟩ := hcs
    exact ⟨[], .inl ⟨⟨_, _, rfl⟩, rfl⟩, by simp, by simp⟩
  · simp [Value.cells] at hcs
    obtain ⟨rfl, rfl, rfl⟩ := hcs
    have hz' : zs.length = cap0 := by simpa using hz
    have hlen : (zs.take len0).length = len0 := by rw [List.length_take]; omega
    refine ⟨zs.take len0, ?_, by omega, fun x hx => hw x (List.mem_of_mem_take hx)⟩
    by_cases h0 : len0 = 0
    · subst h0
      exact .inl ⟨⟨_, _, rfl⟩, by simp⟩
    · obtain ⟨b, off, rfl, hc2⟩ := ints_at hcell (by omega)
      refine .inr ⟨b, off, cap0, by rw [hlen], by omega, cell_lt (hc2 0 (by omega)), fun j hj => ?_⟩
      rw [hlen] at hj
      rw [hc2 j (by omega), List.getD_eq_getElem?_getD, List.getD_eq_getElem?_getD, List.getElem?_take_of_lt hj]

end Go.Proofs.Ytkhkobdbbffkbaa
