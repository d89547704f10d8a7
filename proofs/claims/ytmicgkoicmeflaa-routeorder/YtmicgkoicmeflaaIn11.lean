/- Routes, and calls, that came in as rows (layer 11), over the loaded program. -/
import Derived.Test.YtmicgkoicmeflaaAl11
import Derived.Test.YtmicgkoicmeflaaEq11
import Derived.Deep.Slices
namespace Go.Proofs.Ytmicgkoicmeflaa
open Go.RowKit

theorem pick {α : Type} {p : Nat → α → Prop} : ∀ m, (∀ i, i < m → ∃ x, p i x) → ∃ l : List α, l.length = m ∧ ∀ i x, l[i]? = some x → p i x
  | 0, _ => ⟨[], rfl, by simp⟩
  | m + 1, h => by
    obtain ⟨l, hl, hp⟩ := pick m (fun i hi => h i (by omega))
    obtain ⟨x, hx⟩ := h m (by omega)
    refine ⟨l ++ [x], by simp [hl], fun i y hy => ?_⟩
    rcases Nat.lt_trichotomy i m with g | g | g
    · rw [List.getElem?_append_left (by omega)] at hy
      exact hp i y hy
    · subst g
      rw [List.getElem?_append_right (by omega), hl] at hy
      simp at hy
      subst hy
      exact hx
    · rw [List.getElem?_append_right (by omega), hl] at hy
      have : i - m ≠ 0 := by omega
      simp [this] at hy
theorem list7 {α : Type} (l : List α) (h : l.length = 7) : ∃ a b c d e f g, l = [a, b, c, d, e, f, g] := match l, h with
  | [a, b, c, d, e, f, g], _ => ⟨a, b, c, d, e, f, g, rfl⟩
theorem list3 {α : Type} (l : List α) (h : l.length = 3) : ∃ a b c, l = [a, b, c] := match l, h with
  | [a, b, c], _ => ⟨a, b, c, rfl⟩

theorem rt_of_row {H : Type} {enc : TypeId × Value → H} {W : World} {n : Nat} {c0 c1 c2 c3 c4 : Value} {y : DataW H × List MemPlace}
    (hf : DataW.trod enc Try.prog W 0 (fun _ => true) true n 32 [c0, c1, c2, c3, c4] = some y) : ∃ r : Rt, #[c0, c1, c2, c3, c4] = rtCs r ∧ Rin r := by
  have k1 : Try.prog.cellsOf 3 = 1 := by kernel_rfl
  have k3 : Try.prog.cellsOf 30 = 1 := by kernel_rfl
  obtain ⟨xs, n, _, _, _, hlen, hx⟩ := DataW.trod_struct Try.underlying32 hf
  obtain ⟨y0, y1, y2, y3, y4, rfl⟩ := list5 xs hlen
  have e0 : DataW.trod enc Try.prog W 0 (fun _ => true) true n 30 [c0] = some y0 := by simpa [k3] using hx 0 _ rfl
  have e1 : DataW.trod enc Try.prog W 0 (fun _ => true) true n 3 [c1] = some y1 := by simpa [k1] using hx 1 _ rfl
  have e2 : DataW.trod enc Try.prog W 0 (fun _ => true) true n 30 [c2] = some y2 := by simpa [k3] using hx 2 _ rfl
  have e3 : DataW.trod enc Try.prog W 0 (fun _ => true) true n 3 [c3] = some y3 := by simpa [k1] using hx 3 _ rfl
  have e4 : DataW.trod enc Try.prog W 0 (fun _ => true) true n 30 [c4] = some y4 := by simpa [k3] using hx 4 _ rfl
  exact rt_of_cells e0 e1 e2 e3 e4

theorem hadd (b o j : Nat) : (⟨b, o, none⟩ : Addr).add j = ⟨b, o + j, none⟩ := by unfold Addr.add; split <;> simp_all

/-- routes that came in -/
def IsRts (w : World) (v : Value) (l : List Rt) : Prop := RtsAt w v l ∧ ∀ r ∈ l, Rin r
set_option maxRecDepth 100000 in
theorem isRts_of {H : Type} {enc : TypeId × Value → H} {W : World} {a0 : Option Addr} {len0 cap0 : Nat} {d : DataW H} {ps : List MemPlace}
    (h : DataW.Trod enc Try.prog W 0 (fun _ => true) true 27 (.slice a0 len0 cap0) d ps) : ∃ l, IsRts W (.slice a0 len0 cap0) l := by
  obtain ⟨fuel, hf⟩ := h
  rcases Go.Deep.open_slice Try.underlying27 hf with ⟨hcs, _⟩ | ⟨a, len, cap, m, n, D, Pl, hcs, _, hl, hm, hmm, _, hx⟩
  · simp [Value.cells] at hcs
    obtain ⟨rfl, rfl, rfl⟩ := hcs
    exact ⟨[], .inl ⟨⟨_, _, rfl⟩, rfl⟩, by simp⟩
  · simp [Value.cells] at hcs
    obtain ⟨rfl, rfl, rfl⟩ := hcs
    simp only [if_true] at hmm
    subst hmm
    have hce : Try.prog.cellsOf 32 = 5 := by kernel_rfl
    rw [hce] at hx
    have step : ∀ i, i < m → ∃ r : Rt, Rin r ∧ ∀ j v, (rtCs r)[j]? = some v → W.cell? ((a.add (i * 5)).add j) = some v := by
      intro i hi
      obtain ⟨cs', h1, h2⟩ := hx i hi
      obtain ⟨_, hl5, hc⟩ := World.cells?_some h1
      obtain ⟨c0, c1, c2, c3, c4, rfl⟩ := list5 cs' hl5
      obtain ⟨r, hr, hin⟩ := rt_of_row h2
      refine ⟨r, hin, fun j v hj => ?_⟩
      rw [← hr] at hj
      have hj5 : j < 5 := by
        have := (Array.getElem?_eq_some_iff.1 hj).1
        simpa using this
      have := hc j (by omega)
      rw [this]
      simpa using hj
    obtain ⟨l, hlen, hp⟩ := pick len0 (fun i hi => step i (by omega))
    refine ⟨l, ?_, fun x hx => ?_⟩
    · by_cases h0 : len0 = 0
      · subst h0
        exact .inl ⟨⟨_, _, rfl⟩, List.eq_nil_of_length_eq_zero hlen⟩
      · obtain ⟨b, off, spot⟩ := a
        obtain ⟨x0, hx0⟩ : ∃ x, l[0]? = some x := ⟨l[0], List.getElem?_eq_getElem (by omega)⟩
        have hc := (hp 0 x0 hx0).2 0 _ rfl
        have hspot : spot = none := by simpa [Addr.add] using World.cell?_spot hc
        subst hspot
        refine .inr ⟨b, off, m, by rw [hlen], ?_, fun k x hx j v hj => ?_⟩
        · rw [hadd, hadd] at hc
          exact World.block_lt_of_cell? W _ hc
        · have := (hp k x hx).2 j v hj
          rw [hadd, hadd] at this
          exact this
    · obtain ⟨k, hk⟩ := List.getElem?_of_mem hx
      exact (hp k x hk).1

/-- one call of the law's: which one, of which route, of which address -/
structure Ask where
  d : Nat
  r : Rt
  ip : Nat
def askCs (x : Ask) : Array Value := #[.int .u8 (x.d : Int), .int .u32 (x.r.n : Int), .int .i64 x.r.b, .int .u32 (x.r.v : Int), .int .i64 x.r.c, .int .u32 (x.r.s : Int), .int .u32 (x.ip : Int)]
structure AskIn (x : Ask) : Prop where
  d : x.d < 256
  r : Rin x.r
  ip : x.ip < 4294967296
def AsksAt (w : World) (sv : Value) (L : List Ask) : Prop :=
  ((∃ a cap, sv = .slice a 0 cap) ∧ L = []) ∨ ∃ g off cap, sv = .slice (some ⟨g, off, none⟩) L.length cap ∧ g < w.heap.size ∧ ∀ i r, L[i]? = some r → ∀ j v, (askCs r)[j]? = some v → w.cell? ⟨g, off + i * 7 + j, none⟩ = some v
def IsAsks (w : World) (v : Value) (l : List Ask) : Prop := AsksAt w v l ∧ ∀ x ∈ l, AskIn x
set_option maxRecDepth 100000 in
theorem isAsks_of {H : Type} {enc : TypeId × Value → H} {W : World} {a0 : Option Addr} {len0 cap0 : Nat} {d : DataW H} {ps : List MemPlace}
    (h : DataW.Trod enc Try.prog W 0 (fun _ => true) true 22 (.slice a0 len0 cap0) d ps) : ∃ l, IsAsks W (.slice a0 len0 cap0) l := by
  obtain ⟨fuel, hf⟩ := h
  rcases Go.Deep.open_slice Try.underlying22 hf with ⟨hcs, _⟩ | ⟨a, len, cap, m, n, D, Pl, hcs, _, hl, hm, hmm, _, hx⟩
  · simp [Value.cells] at hcs
    obtain ⟨rfl, rfl, rfl⟩ := hcs
    exact ⟨[], .inl ⟨⟨_, _, rfl⟩, rfl⟩, by simp⟩
  · simp [Value.cells] at hcs
    obtain ⟨rfl, rfl, rfl⟩ := hcs
    simp only [if_true] at hmm
    subst hmm
    have hce : Try.prog.cellsOf 34 = 7 := by kernel_rfl
    rw [hce] at hx
    have k8 : Try.prog.cellsOf 5 = 1 := by kernel_rfl
    have k5 : Try.prog.cellsOf 32 = 5 := by kernel_rfl
    have k3 : Try.prog.cellsOf 30 = 1 := by kernel_rfl
    have step : ∀ i, i < m → ∃ r : Ask, AskIn r ∧ ∀ j v, (askCs r)[j]? = some v → W.cell? ((a.add (i * 7)).add j) = some v := by
      intro i hi
      obtain ⟨cs', h1, h2⟩ := hx i hi
      obtain ⟨_, hl7, hc⟩ := World.cells?_some h1
      obtain ⟨u0, c0, c1, c2, c3, c4, u6, rfl⟩ := list7 cs' hl7
      obtain ⟨xs, q, _, _, _, hlen, ht⟩ := DataW.trod_struct Try.underlying34 h2
      obtain ⟨y0, y1, y2, rfl⟩ := list3 xs hlen
      have e0 : DataW.trod enc Try.prog W 0 (fun _ => true) true q 5 [u0] = some y0 := by simpa [k8, k5, k3] using ht 0 _ rfl
      have e1 : DataW.trod enc Try.prog W 0 (fun _ => true) true q 32 [c0, c1, c2, c3, c4] = some y1 := by simpa [k8, k5, k3] using ht 1 _ rfl
      have e2 : DataW.trod enc Try.prog W 0 (fun _ => true) true q 30 [u6] = some y2 := by simpa [k8, k5, k3] using ht 2 _ rfl
      obtain ⟨n0, g0, _, w0⟩ := DataW.trod_int Try.underlying5 e0
      obtain ⟨n2, g2, _, w2⟩ := DataW.trod_int Try.underlying30 e2
      obtain ⟨r, hr, hin⟩ := rt_of_row e1
      obtain rfl : u0 = .int .u8 n0 := by simpa using g0
      obtain rfl : u6 = .int .u32 n2 := by simpa using g2
      obtain ⟨z0, rfl, hz0⟩ := nat8 w0
      obtain ⟨z2, rfl, hz2⟩ := nat32 w2
      refine ⟨⟨z0, r, z2⟩, ⟨hz0, hin, hz2⟩, fun j v hj => ?_⟩
      have hr' : [c0, c1, c2, c3, c4] = [.int .u32 (r.n : Int), .int .i64 r.b, .int .u32 (r.v : Int), .int .i64 r.c, .int .u32 (r.s : Int)] := by
        have := congrArg Array.toList hr
        simpa [rtCs] using this
      injection hr' with a0 hr'
      injection hr' with a1 hr'
      injection hr' with a2 hr'
      injection hr' with a3 hr'
      injection hr' with a4 hr'
      subst a0 a1 a2 a3 a4
      have hj7 : j < 7 := by
        have := (Array.getElem?_eq_some_iff.1 hj).1
        simpa [askCs] using this
      have := hc j (by omega)
      rw [this]
      simpa [askCs] using hj
    obtain ⟨l, hlen, hp⟩ := pick len0 (fun i hi => step i (by omega))
    refine ⟨l, ?_, fun x hx => ?_⟩
    · by_cases h0 : len0 = 0
      · subst h0
        exact .inl ⟨⟨_, _, rfl⟩, List.eq_nil_of_length_eq_zero hlen⟩
      · obtain ⟨b, off, spot⟩ := a
        obtain ⟨x0, hx0⟩ : ∃ x, l[0]? = some x := ⟨l[0], List.getElem?_eq_getElem (by omega)⟩
        have hc := (hp 0 x0 hx0).2 0 _ rfl
        have hspot : spot = none := by simpa [Addr.add] using World.cell?_spot hc
        subst hspot
        refine .inr ⟨b, off, m, by rw [hlen], ?_, fun k x hx j v hj => ?_⟩
        · rw [hadd, hadd] at hc
          exact World.block_lt_of_cell? W _ hc
        · have := (hp k x hx).2 j v hj
          rw [hadd, hadd] at this
          exact this
    · obtain ⟨k, hk⟩ := List.getElem?_of_mem hx
      exact (hp k x hk).1
theorem AsksAt.slice {w : World} {sv : Value} {L : List Ask} (h : AsksAt w sv L) : ∃ a cap, sv = .slice a L.length cap := by
  rcases h with ⟨⟨a, cap, rfl⟩, rfl⟩ | ⟨g, off, cap, rfl, _⟩
  · exact ⟨a, cap, rfl⟩
  · exact ⟨_, cap, rfl⟩
theorem AsksAt.cells {w : World} {a : Option Addr} {n cap : Nat} {L : List Ask} (h : AsksAt w (.slice a n cap) L) {i : Nat} (hi : i < L.length) : ∃ g off, a = some ⟨g, off, none⟩ ∧ g < w.heap.size ∧ w.cell? ⟨g, off + i * 7, none⟩ = some (.int .u8 (L[i].d : Int)) ∧ w.cell? ⟨g, off + i * 7 + 1, none⟩ = some (.int .u32 (L[i].r.n : Int)) ∧ w.cell? ⟨g, off + i * 7 + 2, none⟩ = some (.int .i64 L[i].r.b) ∧ w.cell? ⟨g, off + i * 7 + 3, none⟩ = some (.int .u32 (L[i].r.v : Int)) ∧ w.cell? ⟨g, off + i * 7 + 4, none⟩ = some (.int .i64 L[i].r.c) ∧ w.cell? ⟨g, off + i * 7 + 5, none⟩ = some (.int .u32 (L[i].r.s : Int)) ∧ w.cell? ⟨g, off + i * 7 + 6, none⟩ = some (.int .u32 (L[i].ip : Int)) := by
  rcases h with ⟨_, e⟩ | ⟨g, off, cap', e, hg, hc⟩
  · rw [e] at hi; exact absurd hi (Nat.not_lt_zero _)
  · injection e with e1 e2 e3
    have := hc i L[i] (List.getElem?_eq_getElem hi)
    exact ⟨g, off, e1, hg, this 0 _ rfl, this 1 _ rfl, this 2 _ rfl, this 3 _ rfl, this 4 _ rfl, this 5 _ rfl, this 6 _ rfl⟩
end Go.Proofs.Ytmicgkoicmeflaa
