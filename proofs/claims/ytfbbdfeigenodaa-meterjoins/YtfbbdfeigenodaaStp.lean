/- A slice of steps that came in: what a row's reading of it says of its cells. -/
import Derived.Test.YtfbbdfeigenodaaKit
import Derived.ProofKit
import Derived.Deep.Slices
import Derived.Deep.Strs
namespace Go.Proofs.Ytfbbdfeigenodaa
open Go.ChangeShapes Go.WideShapes Go.ChangeAt Go.RowKit

abbrev Stp := ByteArray × Int × Int
structure StpOk (x : Stp) : Prop where
  s : x.1.size ≤ maxLen
  n : (Lit.int .i64 x.2.1).wf = true
  m : (Lit.int .i64 x.2.2).wf = true

/-- the cells of a slice of steps -/
def IsSteps (w : World) (v : Value) (l : List Stp) : Prop :=
  (((∃ a c, v = .slice a 0 c) ∧ l = []) ∨ ∃ b off c, v = .slice (some ⟨b, off, none⟩) l.length c ∧ l.length ≤ c ∧ b < w.heap.size ∧
    ∀ k x, l[k]? = some x → w.cell? ⟨b, off + k * 3, none⟩ = some (.string x.1) ∧ w.cell? ⟨b, off + k * 3 + 1, none⟩ = some (.int .i64 x.2.1) ∧ w.cell? ⟨b, off + k * 3 + 2, none⟩ = some (.int .i64 x.2.2)) ∧
  l.length ≤ maxLen ∧ ∀ x ∈ l, StpOk x

theorem cell_lt {W : World} {a : Addr} {v : Value} (h : W.cell? a = some v) : a.block < W.heap.size := by
  apply Classical.byContradiction
  intro hn
  have e : W.heap[a.block]? = none := Array.getElem?_eq_none (by omega)
  unfold World.cell? at h
  rw [e] at h
  simp at h

theorem list3 {α : Type} (l : List α) (h : l.length = 3) : ∃ a b c, l = [a, b, c] := match l, h with
  | [a, b, c], _ => ⟨a, b, c, rfl⟩

theorem pick {α : Type} {p : Nat → α → Prop} : ∀ m, (∀ i, i < m → ∃ x, p i x) → ∃ l : List α, l.length = m ∧ ∀ i x, l[i]? = some x → p i x
  | 0, _ => ⟨[], rfl, by simp⟩
  | m + 1, h => by
    obtain ⟨l, hl, hp⟩ := pick m (fun i hi => h i (by omega))
    obtain ⟨x, hx⟩ := h m (by omega)
    refine ⟨l ++ [x], by simp [hl], fun i y hy => ?_⟩
    rcases Nat.lt_trichotomy i m with g | g | g
    · rw [List.getElem?_append_left (by omega)] at hy
      exact hp i y hy
    · subst g
      rw [List.getElem?_append_right (by omega), hl] at hy
      simp at hy
      subst hy
      exact hx
    · rw [List.getElem?_append_right (by omega), hl] at hy
      have : i - m ≠ 0 := by omega
      simp [this] at hy

theorem isSteps_of {H : Type} {enc : TypeId × Value → H} {W : World} {a0 : Option Addr} {len0 cap0 : Nat} {d : DataW H} {ps : List MemPlace}
    (h : DataW.Trod enc Try.prog W 0 (fun _ => true) true 22 (.slice a0 len0 cap0) d ps) : ∃ l, IsSteps W (.slice a0 len0 cap0) l := by
  obtain ⟨fuel, hf⟩ := h
  rcases Go.Deep.open_slice Try.underlying22 hf with ⟨hcs, _⟩ | ⟨a, len, cap, m, n, D, Pl, hcs, _, hl, hm, hmm, _, hx⟩
  · simp [Value.cells] at hcs
    obtain ⟨rfl, rfl, rfl⟩ := hcs
    exact ⟨[], .inl ⟨⟨_, _, rfl⟩, rfl⟩, by simp, by simp⟩
  · simp [Value.cells] at hcs
    obtain ⟨rfl, rfl, rfl⟩ := hcs
    simp only [if_true] at hmm
    subst hmm
    have hce : Try.prog.cellsOf 42 = 3 := by kernel_rfl
    rw [hce] at hx
    have step : ∀ i, i < m → ∃ x : Stp, StpOk x ∧ W.cell? (a.add (i * 3)) = some (.string x.1) ∧ W.cell? ((a.add (i * 3)).add 1) = some (.int .i64 x.2.1) ∧ W.cell? ((a.add (i * 3)).add 2) = some (.int .i64 x.2.2) := by
      intro i hi
      obtain ⟨cs', h1, h2⟩ := hx i hi
      obtain ⟨y0, y1, y2, q, _, hlen, t0, t1, t2⟩ := Go.Deep.trod_struct3 Try.underlying42 h2
      obtain ⟨_, hl3, hc⟩ := World.cells?_some h1
      obtain ⟨u0, u1, u2, rfl⟩ := list3 cs' hl3
      have k9 : Try.prog.cellsOf 9 = 1 := by kernel_rfl
      have k2 : Try.prog.cellsOf 2 = 1 := by kernel_rfl
      simp only [k9, k2, List.drop_zero, List.drop_succ_cons, List.take_succ_cons, List.take_zero] at t0 t1 t2
      · have e0 : DataW.trod enc Try.prog W 0 (fun _ => true) true q 9 [u0] = some y0 := t0
        have e1 : DataW.trod enc Try.prog W 0 (fun _ => true) true q 2 [u1] = some y1 := t1
        have e2 : DataW.trod enc Try.prog W 0 (fun _ => true) true q 2 [u2] = some y2 := t2
        obtain ⟨s, hs, _, hsz⟩ := DataW.trod_string Try.underlying9 e0
        obtain ⟨n1, hn1, _, hw1⟩ := DataW.trod_int Try.underlying2 e1
        obtain ⟨n2, hn2, _, hw2⟩ := DataW.trod_int Try.underlying2 e2
        obtain rfl : u0 = .string s := by simpa using hs
        obtain rfl : u1 = .int .i64 n1 := by simpa using hn1
        obtain rfl : u2 = .int .i64 n2 := by simpa using hn2
        refine ⟨(s, n1, n2), ⟨hsz, hw1, hw2⟩, ?_, ?_, ?_⟩
        · have := hc 0 (by omega); simpa [Addr.add] using this
        · have := hc 1 (by omega); simpa using this
        · have := hc 2 (by omega); simpa using this
    obtain ⟨l, hlen, hp⟩ := pick len0 (fun i hi => step i (by omega))
    refine ⟨l, ?_, by omega, fun x hx => ?_⟩
    · by_cases h0 : len0 = 0
      · subst h0
        exact .inl ⟨⟨_, _, rfl⟩, List.eq_nil_of_length_eq_zero hlen⟩
      · obtain ⟨b, off, spot⟩ := a
        obtain ⟨x0, hx0⟩ : ∃ x, l[0]? = some x := ⟨l[0], List.getElem?_eq_getElem (by omega)⟩
        have hc := (hp 0 x0 hx0).2.1
        have hspot : spot = none := by simpa [Addr.add] using World.cell?_spot hc
        subst hspot
        have hadd : ∀ o j : Nat, (⟨b, o, none⟩ : Addr).add j = ⟨b, o + j, none⟩ := fun o j => by unfold Addr.add; split <;> simp_all
        refine .inr ⟨b, off, m, by rw [hlen], by omega, ?_, fun k x hx => ?_⟩
        · rw [hadd] at hc
          exact cell_lt hc
        · obtain ⟨_, g0, g1, g2⟩ := hp k x hx
          rw [hadd] at g0
          rw [hadd, hadd] at g1 g2
          exact ⟨g0, g1, g2⟩
    · obtain ⟨k, hk⟩ := List.getElem?_of_mem hx
      exact (hp k x hk).1

end Go.Proofs.Ytfbbdfeigenodaa
