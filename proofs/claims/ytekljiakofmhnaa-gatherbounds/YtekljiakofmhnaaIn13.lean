/- A conf of package gather, and calls of its law, that came in; over the loaded program. -/
import Derived.Test.YtekljiakofmhnaaGv1
import Derived.ProofKit
import Derived.OpenShut
import Derived.SizedLaws
import Derived.Deep.Slices
namespace Go.Proofs.Ytekljiakofmhnaa
open Go.ChangeShapes Go.WideShapes Go.ChangeAt Go.RowKit

theorem pick13 {α : Type} {p : Nat → α → Prop} : ∀ m, (∀ i, i < m → ∃ x, p i x) → ∃ l : List α, l.length = m ∧ ∀ i x, l[i]? = some x → p i x
  | 0, _ => ⟨[], rfl, by simp⟩
  | m + 1, h => by
    obtain ⟨l, hl, hp⟩ := pick13 m (fun i hi => h i (by omega))
    obtain ⟨x, hx⟩ := h m (by omega)
    refine ⟨l ++ [x], by simp [hl], fun i y hy => ?_⟩
    rcases Nat.lt_trichotomy i m with g | g | g
    · rw [List.getElem?_append_left (by omega)] at hy
      exact hp i y hy
    · subst g
      rw [List.getElem?_append_right (by omega), hl] at hy
      simp at hy
      subst hy
      exact hx
    · rw [List.getElem?_append_right (by omega), hl] at hy
      have : i - m ≠ 0 := by omega
      simp [this] at hy
theorem list4 {α : Type} (l : List α) (h : l.length = 4) : ∃ a b c d, l = [a, b, c, d] := match l, h with
  | [a, b, c, d], _ => ⟨a, b, c, d, rfl⟩
theorem list13 {α : Type} (l : List α) (h : l.length = 13) : ∃ a b c d e f g h' i j k m n, l = [a, b, c, d, e, f, g, h', i, j, k, m, n] := match l, h with
  | [a, b, c, d, e, f, g, h', i, j, k, m, n], _ => ⟨a, b, c, d, e, f, g, h', i, j, k, m, n, rfl⟩

/-- a conf that came in -/
def IsGc (v : Value) (c : Cv) : Prop := v = .agg (cvL c) ∧ (Lit.int .i64 c.most).wf = true ∧ (Lit.int .i64 c.byt).wf = true ∧ (Lit.int .i64 c.prt).wf = true ∧ (Lit.int .i64 c.tm).wf = true
set_option maxRecDepth 100000 in
theorem isGc_of {H : Type} {enc : TypeId × Value → H} {W : World} {v : Value} {d : DataW H} {ps : List MemPlace} {base : Nat}
    (hv : Value.okWide Try.prog W .any base 23 v) (h : DataW.Trod enc Try.prog W 0 (fun _ => true) true 23 v d ps) : ∃ c, IsGc v c := by
  obtain ⟨cs, rfl, hsz⟩ := okWide_struct Try.underlying23 hv
  have k6 : Try.prog.cellsOf 23 = 4 := by kernel_rfl
  have k1 : Try.prog.cellsOf 3 = 1 := by kernel_rfl
  have k2 : Try.prog.cellsOf 2 = 1 := by kernel_rfl
  rw [k6] at hsz
  obtain ⟨cl, rfl⟩ : ∃ cl : List Value, cs = cl.toArray := ⟨cs.toList, by simp⟩
  obtain ⟨c0, c1, c2, c3, rfl⟩ := list4 cl (by simpa using hsz)
  obtain ⟨fuel, hf⟩ := h
  obtain ⟨xs, n, _, _, _, hlen, hx⟩ := DataW.trod_struct Try.underlying23 hf
  obtain ⟨y0, y1, y2, y3, rfl⟩ := list4 xs hlen
  have e0 : DataW.trod enc Try.prog W 0 (fun _ => true) true n 3 [c0] = some y0 := by simpa [k1, Value.cells] using hx 0 _ rfl
  have e1 : DataW.trod enc Try.prog W 0 (fun _ => true) true n 3 [c1] = some y1 := by simpa [k1, Value.cells] using hx 1 _ rfl
  have e2 : DataW.trod enc Try.prog W 0 (fun _ => true) true n 3 [c2] = some y2 := by simpa [k1, Value.cells] using hx 2 _ rfl
  have e3 : DataW.trod enc Try.prog W 0 (fun _ => true) true n 2 [c3] = some y3 := by simpa [k2, Value.cells] using hx 3 _ rfl
  obtain ⟨n0, g0, _, w0⟩ := DataW.trod_int Try.underlying3 e0
  obtain ⟨n1, g1, _, w1⟩ := DataW.trod_int Try.underlying3 e1
  obtain ⟨n2, g2, _, w2⟩ := DataW.trod_int Try.underlying3 e2
  obtain ⟨n3, g3, _, w3⟩ := DataW.trod_int Try.underlying2 e3
  obtain rfl : c0 = .int .i64 n0 := by simpa using g0
  obtain rfl : c1 = .int .i64 n1 := by simpa using g1
  obtain rfl : c2 = .int .i64 n2 := by simpa using g2
  obtain rfl : c3 = .int .i64 n3 := by simpa using g3
  exact ⟨⟨n0, n1, n2, n3⟩, rfl, w0, w1, w2, w3⟩
/-- what may be -/
theorem gc_cases {c : Cv} (hp : (Lit.int .i64 c.prt).wf = true) : (∃ k : Cf, k.Ok ∧ c = ⟨k.most, k.byt, k.prt, k.tm⟩) ∨ ¬ c.May := by
  by_cases h : c.May
  · obtain ⟨a, b, d, t⟩ := c
    unfold Cv.May at h
    simp only at h
    refine .inl ⟨⟨a.toNat, b.toNat, d.toNat, t.toNat⟩, ⟨?_, ?_, ?_, ?_, ?_, ?_, ?_, ?_⟩, ?_⟩
    all_goals first | (simp only; omega) | (simp only [Cv.mk.injEq]; omega)
  · exact .inr h

/-- one call of the law's: which one, of which head and data, how much later -/
structure Cl where
  d : Nat
  h : Rh
  s : ByteArray
  by' : Int
def clCs (x : Cl) : Array Value := #[.int .u8 (x.d : Int), .int .u8 (x.h.tos : Int), .int .u16 (x.h.id : Int), .bool x.h.hold, .bool x.h.more, .int .i64 x.h.at', .int .u8 (x.h.ttl : Int), .int .u8 (x.h.proto : Int), .int .u32 (x.h.frm : Int), .int .u32 (x.h.to : Int), .string x.h.op, .string x.s, .int .i64 x.by']
structure ClIn (x : Cl) : Prop where
  d : x.d < 256
  tos : x.h.tos < 256
  id : x.h.id < 65536
  at' : (Lit.int .i64 x.h.at').wf = true
  ttl : x.h.ttl < 256
  proto : x.h.proto < 256
  frm : x.h.frm < 4294967296
  dst : x.h.to < 4294967296
  by' : (Lit.int .i64 x.by').wf = true
def ClsAt (w : World) (sv : Value) (L : List Cl) : Prop :=
  ((∃ a cap, sv = .slice a 0 cap) ∧ L = []) ∨ ∃ g off cap, sv = .slice (some ⟨g, off, none⟩) L.length cap ∧ L.length ≤ cap ∧ cap ≤ maxLen ∧ g < w.heap.size ∧ ∀ i r, L[i]? = some r → ∀ j v, (clCs r)[j]? = some v → w.cell? ⟨g, off + i * 13 + j, none⟩ = some v
def IsCls (w : World) (v : Value) (l : List Cl) : Prop := ClsAt w v l ∧ ∀ x ∈ l, ClIn x
theorem wts_mem {H : Type} {P : Program} {e : TypeId} : ∀ {l : List (DataW H)} {d : DataW H} {n : Nat}, d ∈ l → n ∈ d.weights P e → n ∈ DataW.weightsAll P e l
  | x :: l, d, n, h, hn => by
    rw [DataW.weightsAll, List.mem_append]
    rcases List.mem_cons.1 h with rfl | h
    · exact .inl hn
    · exact .inr (wts_mem h hn)
theorem hadd13 (b o j : Nat) : (⟨b, o, none⟩ : Addr).add j = ⟨b, o + j, none⟩ := by unfold Addr.add; split <;> simp_all
set_option maxRecDepth 100000 in
theorem isCls_of {H : Type} {enc : TypeId × Value → H} {W : World} {a0 : Option Addr} {len0 cap0 : Nat} {d : DataW H} {ps : List MemPlace}
    (h : DataW.Trod enc Try.prog W 0 (fun _ => true) true 24 (.slice a0 len0 cap0) d ps) :
    ∃ L : List Cl, IsCls W (.slice a0 len0 cap0) L ∧ L.length ≤ 9223372036854775807 ∧ True ∧ ((∀ n ∈ d.weights Try.prog 24, n ≤ reachBytes) → ∀ x ∈ L, x.s.size ≤ 140737488355328 ∧ x.h.op.size ≤ 140737488355328) := by
  obtain ⟨fuel, hf⟩ := h
  have u0 := Try.underlying24
  have u1 := Try.underlying36
  have u2 := Try.underlying34
  rcases Go.Deep.open_slice u0 hf with ⟨hcs, _⟩ | ⟨a, len, cap, m, n, D, Pl, hcs, _, hl, hm, hmm, hd, hx⟩
  · simp [Value.cells] at hcs
    obtain ⟨rfl, rfl, rfl⟩ := hcs
    exact ⟨[], ⟨.inl ⟨⟨_, _, rfl⟩, rfl⟩, by simp⟩, by simp, trivial, by simp⟩
  · simp [Value.cells] at hcs
    obtain ⟨rfl, rfl, rfl⟩ := hcs
    simp only [if_true] at hmm
    subst hmm
    have hce : Try.prog.cellsOf 36 = 13 := by kernel_rfl
    rw [hce] at hx
    have k8 : Try.prog.cellsOf 5 = 1 := by kernel_rfl
    have k10 : Try.prog.cellsOf 34 = 10 := by kernel_rfl
    have k16 : Try.prog.cellsOf 31 = 1 := by kernel_rfl
    have kb : Try.prog.cellsOf 4 = 1 := by kernel_rfl
    have ki : Try.prog.cellsOf 3 = 1 := by kernel_rfl
    have k64 : Try.prog.cellsOf 2 = 1 := by kernel_rfl
    have k32 : Try.prog.cellsOf 32 = 1 := by kernel_rfl
    have ks : Try.prog.cellsOf 9 = 1 := by kernel_rfl
    have step : ∀ i, i < m → ∃ r : Cl, (ClIn r ∧ ∃ z0 z3 a0 a1 a2 a3 a4 a5 a6 a7 a8, D i = .agg [z0, .agg [a0, a1, a2, a3, a4, a5, a6, a7, a8, .lit (.string r.h.op.data.toList)], .lit (.string r.s.data.toList), z3]) ∧ ∀ j v, (clCs r)[j]? = some v → W.cell? ((a.add (i * 13)).add j) = some v := by
      intro i hi
      obtain ⟨cs', h1, h2⟩ := hx i hi
      obtain ⟨_, hl13, hc⟩ := World.cells?_some h1
      obtain ⟨u0, c0, c1, c2, c3, c4, c5, c6, c7, c8, c9, s0, b0, rfl⟩ := list13 cs' hl13
      obtain ⟨xs, q, _, hD, _, hlen, ht⟩ := DataW.trod_struct u1 h2
      obtain ⟨y0, y1, y2, y3, rfl⟩ := list4 xs hlen
      have f0 : DataW.trod enc Try.prog W 0 (fun _ => true) true q 5 [u0] = some y0 := by simpa [k8, k10, ks, k64] using ht 0 _ rfl
      have f1 : DataW.trod enc Try.prog W 0 (fun _ => true) true q 34 [c0, c1, c2, c3, c4, c5, c6, c7, c8, c9] = some y1 := by simpa [k8, k10, ks, k64] using ht 1 _ rfl
      have f2 : DataW.trod enc Try.prog W 0 (fun _ => true) true q 9 [s0] = some y2 := by simpa [k8, k10, ks, k64] using ht 2 _ rfl
      have f3 : DataW.trod enc Try.prog W 0 (fun _ => true) true q 2 [b0] = some y3 := by simpa [k8, k10, ks, k64] using ht 3 _ rfl
      obtain ⟨zs, q2, _, hD1, _, hlen2, hu⟩ := DataW.trod_struct u2 f1
      obtain ⟨x0, x1, x2, x3, x4, x5, x6, x7, x8, x9, rfl⟩ := list10 zs hlen2
      have e0 : DataW.trod enc Try.prog W 0 (fun _ => true) true q2 5 [c0] = some x0 := by simpa [k8, k16, kb, ki, k32, ks] using hu 0 _ rfl
      have e1 : DataW.trod enc Try.prog W 0 (fun _ => true) true q2 31 [c1] = some x1 := by simpa [k8, k16, kb, ki, k32, ks] using hu 1 _ rfl
      have e2 : DataW.trod enc Try.prog W 0 (fun _ => true) true q2 4 [c2] = some x2 := by simpa [k8, k16, kb, ki, k32, ks] using hu 2 _ rfl
      have e3 : DataW.trod enc Try.prog W 0 (fun _ => true) true q2 4 [c3] = some x3 := by simpa [k8, k16, kb, ki, k32, ks] using hu 3 _ rfl
      have e4 : DataW.trod enc Try.prog W 0 (fun _ => true) true q2 3 [c4] = some x4 := by simpa [k8, k16, kb, ki, k32, ks] using hu 4 _ rfl
      have e5 : DataW.trod enc Try.prog W 0 (fun _ => true) true q2 5 [c5] = some x5 := by simpa [k8, k16, kb, ki, k32, ks] using hu 5 _ rfl
      have e6 : DataW.trod enc Try.prog W 0 (fun _ => true) true q2 5 [c6] = some x6 := by simpa [k8, k16, kb, ki, k32, ks] using hu 6 _ rfl
      have e7 : DataW.trod enc Try.prog W 0 (fun _ => true) true q2 32 [c7] = some x7 := by simpa [k8, k16, kb, ki, k32, ks] using hu 7 _ rfl
      have e8 : DataW.trod enc Try.prog W 0 (fun _ => true) true q2 32 [c8] = some x8 := by simpa [k8, k16, kb, ki, k32, ks] using hu 8 _ rfl
      have e9 : DataW.trod enc Try.prog W 0 (fun _ => true) true q2 9 [c9] = some x9 := by simpa [k8, k16, kb, ki, k32, ks] using hu 9 _ rfl
      obtain ⟨n0, g0, _, w0⟩ := DataW.trod_int Try.underlying5 e0
      obtain ⟨n1, g1, _, w1⟩ := DataW.trod_int Try.underlying31 e1
      obtain ⟨n2, g2, _⟩ := DataW.trod_bool Try.underlying4 e2
      obtain ⟨n3, g3, _⟩ := DataW.trod_bool Try.underlying4 e3
      obtain ⟨n4, g4, _, w4⟩ := DataW.trod_int Try.underlying3 e4
      obtain ⟨n5, g5, _, w5⟩ := DataW.trod_int Try.underlying5 e5
      obtain ⟨n6, g6, _, w6⟩ := DataW.trod_int Try.underlying5 e6
      obtain ⟨n7, g7, _, w7⟩ := DataW.trod_int Try.underlying32 e7
      obtain ⟨n8, g8, _, w8⟩ := DataW.trod_int Try.underlying32 e8
      obtain ⟨n9, g9, v9, w9⟩ := DataW.trod_string Try.underlying9 e9
      obtain ⟨nd, gd, _, wd⟩ := DataW.trod_int Try.underlying5 f0
      obtain ⟨ns, gs, vs, ws⟩ := DataW.trod_string Try.underlying9 f2
      obtain ⟨nb, gb, _, wb⟩ := DataW.trod_int Try.underlying2 f3
      obtain rfl : u0 = .int .u8 nd := by simpa using gd
      obtain rfl : s0 = .string ns := by simpa using gs
      obtain rfl : b0 = .int .i64 nb := by simpa using gb
      obtain rfl : c0 = .int .u8 n0 := by simpa using g0
      obtain rfl : c1 = .int .u16 n1 := by simpa using g1
      obtain rfl : c2 = .bool n2 := by simpa using g2
      obtain rfl : c3 = .bool n3 := by simpa using g3
      obtain rfl : c4 = .int .i64 n4 := by simpa using g4
      obtain rfl : c5 = .int .u8 n5 := by simpa using g5
      obtain rfl : c6 = .int .u8 n6 := by simpa using g6
      obtain rfl : c7 = .int .u32 n7 := by simpa using g7
      obtain rfl : c8 = .int .u32 n8 := by simpa using g8
      obtain rfl : c9 = .string n9 := by simpa using g9
      obtain ⟨md, rfl, qd⟩ := nat8 wd
      obtain ⟨m0, rfl, q0⟩ := nat8 w0
      obtain ⟨m1, rfl, q1⟩ := nat16 w1
      obtain ⟨m5, rfl, q5⟩ := nat8 w5
      obtain ⟨m6, rfl, q6⟩ := nat8 w6
      obtain ⟨m7, rfl, q7⟩ := nat32 w7
      obtain ⟨m8, rfl, q8⟩ := nat32 w8
      refine ⟨⟨md, ⟨m0, m1, n2, n3, n4, m5, m6, m7, m8, n9⟩, ns, nb⟩, ⟨⟨qd, q0, q1, w4, q5, q6, q7, q8, wb⟩, y0.1, y3.1, x0.1, x1.1, x2.1, x3.1, x4.1, x5.1, x6.1, x7.1, x8.1, ?_⟩, fun j v hj => ?_⟩
      · have := congrArg Prod.fst hD
        simp only [List.map_cons, List.map_nil] at this
        rw [this, congrArg Prod.fst hD1, vs]
        simp only [List.map_cons, List.map_nil, v9]
      · have hj13 : j < 13 := by
          have := (Array.getElem?_eq_some_iff.1 hj).1
          simpa [clCs] using this
        have := hc j (by omega)
        rw [this]
        simpa [clCs] using hj
    obtain ⟨l, hlen, hp⟩ := pick13 len0 (fun i hi => step i (by omega))
    refine ⟨l, ⟨?_, fun x hx => ?_⟩, by unfold maxLen at hm; omega, trivial, fun hw x hx => ?_⟩
    · by_cases h0 : len0 = 0
      · subst h0
        exact .inl ⟨⟨_, _, rfl⟩, List.eq_nil_of_length_eq_zero hlen⟩
      · obtain ⟨b, off, spot⟩ := a
        obtain ⟨x0, hx0⟩ : ∃ x, l[0]? = some x := ⟨l[0], List.getElem?_eq_getElem (by omega)⟩
        have hc := (hp 0 x0 hx0).2 0 _ rfl
        have hspot : spot = none := by simpa [Addr.add] using World.cell?_spot hc
        subst hspot
        refine .inr ⟨b, off, m, by rw [hlen], by omega, hm, ?_, fun k x hx j v hj => ?_⟩
        · rw [hadd13, hadd13] at hc
          exact World.block_lt_of_cell? W _ hc
        · have := (hp k x hx).2 j v hj
          rw [hadd13, hadd13] at this
          exact this
    · obtain ⟨k, hk⟩ := List.getElem?_of_mem hx
      exact (hp k x hk).1.1
    · obtain ⟨k, hk⟩ := List.getElem?_of_mem hx
      have hkl : k < len0 := by rw [← hlen]; exact (List.getElem?_eq_some_iff.1 hk).1
      obtain ⟨z0, z3, a0, a1, a2, a3, a4, a5, a6, a7, a8, hDk⟩ := (hp k x hk).1.2
      have e := congrArg Prod.fst hd
      simp only at e
      have key : ∀ n ∈ (D k).weights Try.prog 36, n ≤ reachBytes := fun n hn => hw n (by
        rw [e, DataW.weights, u0]
        exact List.mem_cons_of_mem _ (List.mem_append.2 (.inl (wts_mem (d := D k) (List.mem_map.2 ⟨k, List.mem_range.2 hkl, rfl⟩) hn))))
      rw [hDk, DataW.weights, u1] at key
      simp only [List.map_cons, List.map_nil, DataW.weightsEach, DataW.weights, u2] at key
      have k1 := key x.s.data.toList.length (by simp)
      have k2 := key x.h.op.data.toList.length (by simp)
      rw [← Lib.size_eq] at k1 k2
      unfold reachBytes at k1 k2
      omega
theorem ClsAt.slice {w : World} {sv : Value} {L : List Cl} (h : ClsAt w sv L) : ∃ a cap, sv = .slice a L.length cap := by
  rcases h with ⟨⟨a, cap, rfl⟩, rfl⟩ | ⟨g, off, cap, rfl, _⟩
  · exact ⟨a, cap, rfl⟩
  · exact ⟨_, cap, rfl⟩
theorem ClsAt.on {w w' : World} {v : Value} {L : List Cl} (h : ClsAt w v L) (k : Below w.heap.size w w') : ClsAt w' v L := by
  rcases h with h | ⟨g, off, cap, rfl, h1, h2, h3, h4⟩
  · exact .inl h
  · exact .inr ⟨g, off, cap, rfl, h1, h2, Nat.lt_of_lt_of_le h3 k.size, fun i r hi j v hj => (k.cell (p := ⟨g, off + i * 13 + j, none⟩) h3).trans (h4 i r hi j v hj)⟩

end Go.Proofs.Ytekljiakofmhnaa
