/- Options that came in: what a row's reading of them says, and how long they are at most. -/
import Derived.Test.YtefenejeppmfiaaIo0
import Derived.ProofKit
import Derived.SizedLaws
import Derived.Deep.SlicePairs
namespace Go.Proofs.Ytefenejeppmfiaa
open Go.ChangeShapes Go.WideShapes Go.ChangeAt Go.RowKit

theorem pick {α : Type} {p : Nat → α → Prop} : ∀ m, (∀ i, i < m → ∃ x, p i x) → ∃ l : List α, l.length = m ∧ ∀ i x, l[i]? = some x → p i x
  | 0, _ => ⟨[], rfl, fun i x h => by simp at h⟩
  | m + 1, h => by
    obtain ⟨l, hl, hp⟩ := pick m (fun i hi => h i (by omega))
    obtain ⟨y, hy⟩ := h m (by omega)
    refine ⟨l ++ [y], by simp [hl], fun i x hx => ?_⟩
    by_cases hi : i < m
    · rw [List.getElem?_append_left (by omega)] at hx
      exact hp i x hx
    · rw [List.getElem?_append_right (by omega)] at hx
      have : i - l.length = 0 := by
        apply Classical.byContradiction
        intro hn
        rw [List.getElem?_eq_none (by simp; omega)] at hx
        cases hx
      rw [this] at hx
      obtain rfl : y = x := by simpa using hx
      obtain rfl : i = m := by omega
      exact hy
theorem mem_all {H : Type} {P : Program} {e : TypeId} : ∀ {l : List (DataW H)} {d : DataW H} {n : Nat}, d ∈ l → n ∈ d.weights P e → n ∈ DataW.weightsAll P e l
  | x :: l, d, n, h, hn => by
    rw [DataW.weightsAll, List.mem_append]
    rcases List.mem_cons.1 h with rfl | h
    · exact .inl hn
    · exact .inr (mem_all h hn)

set_option maxRecDepth 100000 in
theorem isOpts_of {H : Type} {enc : TypeId × Value → H} {W : World} {a0 : Option Addr} {len0 cap0 : Nat} {d : DataW H} {ps : List MemPlace}
    (h : DataW.Trod enc Try.prog W 0 (fun _ => true) true 40 (.slice a0 len0 cap0) d ps) :
    ∃ L : List Po, OptsAt W.heap.size W (.slice a0 len0 cap0) L ∧ L.length ≤ 9223372036854775807 ∧ (∀ x ∈ L, x.1 < 256) ∧ ((∀ n ∈ d.weights Try.prog 40, n ≤ reachBytes) → ∀ x ∈ L, x.2.size ≤ 140737488355328) := by
  obtain ⟨fuel, hf⟩ := h
  have u0 := Try.underlying40
  have u1 := Try.underlying44
  have k2 : Try.prog.cellsOf 44 = 2 := by kernel_rfl
  rcases Go.Deep.open_slice_pairs u0 u1 k2 rfl rfl (by kernel_rfl) (by kernel_rfl) hf with ⟨hcs, _⟩ | ⟨a, len, cap, m, n, V0, V1, D0, D1, P0, P1, hcs, _, hl, hm, hmm, hd, hx⟩
  · simp [Value.cells] at hcs
    obtain ⟨rfl, rfl, rfl⟩ := hcs
    exact ⟨[], .inl ⟨⟨_, _, rfl⟩, rfl⟩, by simp, by simp, by simp⟩
  · simp [Value.cells] at hcs
    obtain ⟨rfl, rfl, rfl⟩ := hcs
    simp only [if_true] at hmm
    subst hmm
    have step : ∀ i, i < m → ∃ x : Po, x.1 < 256 ∧ W.cell? (a.add (i * 2)) = some (.int .u8 (x.1 : Int)) ∧ W.cell? (a.add (i * 2 + 1)) = some (.string x.2) ∧ D1 i = .lit (.string x.2.data.toList) := by
      intro i hi
      obtain ⟨h1, h2, e0, e1⟩ := hx i hi
      obtain ⟨n0, g0, _, w0⟩ := DataW.trod_int Try.underlying5 e0
      obtain ⟨s, g1, y1, _⟩ := DataW.trod_string Try.underlying9 e1
      have g0 : V0 i = .int .u8 n0 := by simpa using g0
      have g1 : V1 i = .string s := by simpa using g1
      obtain ⟨z, rfl, hz⟩ := nat8 w0
      exact ⟨(z, s), hz, by rw [h1, g0], by rw [h2, g1], congrArg Prod.fst y1⟩
    obtain ⟨l, hlen, hp⟩ := pick len0 (fun i hi => step i (by omega))
    have hmem : ∀ x ∈ l, ∃ i, i < len0 ∧ l[i]? = some x := fun x hx => by
      obtain ⟨i, hi, rfl⟩ := List.getElem_of_mem hx
      exact ⟨i, by omega, List.getElem?_eq_getElem hi⟩
    refine ⟨l, ?_, by unfold maxLen at hm; omega, fun x hx => ?_, fun hw x hx => ?_⟩
    · by_cases h0 : len0 = 0
      · subst h0
        exact .inl ⟨⟨_, _, rfl⟩, List.eq_nil_of_length_eq_zero hlen⟩
      · obtain ⟨b, off, spot⟩ := a
        obtain ⟨x0, hx0⟩ : ∃ x, l[0]? = some x := ⟨l[0], List.getElem?_eq_getElem (by omega)⟩
        have hc := (hp 0 x0 hx0).2.1
        have hspot : spot = none := by simpa [Addr.add] using World.cell?_spot hc
        subst hspot
        have hadd : ∀ o j : Nat, (⟨b, o, none⟩ : Addr).add j = ⟨b, o + j, none⟩ := fun o j => by unfold Addr.add; split <;> simp_all
        refine .inr ⟨b, off, m, by rw [hlen], ?_, fun k x hx => ?_⟩
        · rw [hadd] at hc
          exact World.block_lt_of_cell? W _ hc
        · obtain ⟨_, g0, g1, _⟩ := hp k x hx
          rw [hadd] at g0 g1
          exact ⟨g0, g1⟩
    · obtain ⟨i, hi, hx⟩ := hmem x hx
      exact (hp i x hx).1
    · obtain ⟨i, hi, hx⟩ := hmem x hx
      have hd1 := (hp i x hx).2.2.2
      have e := congrArg Prod.fst hd
      simp only at e
      have := hw x.2.data.toList.length (by
        rw [e]
        rw [DataW.weights, u0]
        refine List.mem_cons_of_mem _ (List.mem_append.2 (.inl (mem_all (d := .agg [D0 i, D1 i]) (List.mem_map.2 ⟨i, List.mem_range.2 hi, rfl⟩) ?_)))
        rw [DataW.weights, u1, hd1]
        simp [DataW.weightsEach, DataW.weights])
      rw [← Lib.size_eq] at this
      unfold reachBytes at this
      omega

end Go.Proofs.Ytefenejeppmfiaa
