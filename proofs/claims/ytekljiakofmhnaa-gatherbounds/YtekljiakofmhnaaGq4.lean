/- The contracts of New, Next and drop of package gather, over the loaded program. Conditions: numbers in their kinds' bounds. -/
import Derived.Test.YtekljiakofmhnaaGq3
namespace Go.Proofs.Ytekljiakofmhnaa
open Go.RowKit

abbrev cfL (c : Cf) : Array Value := #[.int .i64 (c.most : Int), .int .i64 (c.byt : Int), .int .i64 (c.prt : Int), .int .i64 (c.tm : Int)]
theorem may_cf {c : Cf} (h : c.Ok) : (⟨c.most, c.byt, c.prt, c.tm⟩ : Cv).May := by
  obtain ⟨h1, h2, h3, h4, h5, h6, h7, h8⟩ := h
  unfold Cv.May
  simp
  omega

set_option maxRecDepth 20000 in
set_option maxHeartbeats 1000000 in
theorem new_ok (c : Cf) (hc : c.Ok) (w : World) :
    Calls Try.prog 5 #[.agg (cfL c)] w fun e w' => ∃ p b, e = .returned (.tuple #[.pointer (some ⟨p, 0, none⟩), .int .i64 0]) ∧ GX (fun i => i < w.heap.size) w' p b c [] [] (.slice none 0 0) 0 0 ∧ Below w.heap.size w w' ∧ w.heap.size ≤ p ∧ w.heap.size ≤ b := by
  have H := hide (fun w => maybe_any ⟨c.most, c.byt, c.prt, c.tm⟩ w)
  have hm := may_cf hc
  rw [decide_eq_true hm] at H
  have B0 := below_one w (.cells (cfL c) 23)
  have EA := heap_alloc_new w (.cells (cfL c) 23)
  have d0 : (w.alloc (.cells (cfL c) 23)).cell? ⟨w.heap.size, 0, none⟩ = some (.int .i64 (c.most : Int)) := cell_of_row _ _ 0 _ _ _ EA
  have d1 : (w.alloc (.cells (cfL c) 23)).cell? ⟨w.heap.size, 1, none⟩ = some (.int .i64 (c.byt : Int)) := cell_of_row _ _ 1 _ _ _ EA
  have d2 : (w.alloc (.cells (cfL c) 23)).cell? ⟨w.heap.size, 2, none⟩ = some (.int .i64 (c.prt : Int)) := cell_of_row _ _ 2 _ _ _ EA
  have d3 : (w.alloc (.cells (cfL c) 23)).cell? ⟨w.heap.size, 3, none⟩ = some (.int .i64 (c.tm : Int)) := cell_of_row _ _ 3 _ _ _ EA
  clear hm hc
  go_enter Try.func5, Try.ntmps5
  go_wp2_with fail
  refine (unhide H _).mono ?_
  rintro e w1 ⟨rfl, b1⟩
  have d0 := (b1.cell (p := ⟨w.heap.size, 0, none⟩) (by simp)).trans d0
  have d1 := (b1.cell (p := ⟨w.heap.size, 1, none⟩) (by simp)).trans d1
  have d2 := (b1.cell (p := ⟨w.heap.size, 2, none⟩) (by simp)).trans d2
  have d3 := (b1.cell (p := ⟨w.heap.size, 3, none⟩) (by simp)).trans d3
  have B1 := hide (tr2 B0 b1)
  have hmm := @run_makeMap Try.prog
  clear B0 b1 EA H
  go_wp2_with fail
  refine bodyPost_ret (v := .tuple #[.pointer (some ⟨w1.heap.size + 1, 0, none⟩), .int .i64 0]) (by simp [results, Try.results5, go_sem]) rfl ?_
  have B2 := below_one w1 (.map #[] 0)
  have B3 := below_one (w1.alloc (.map #[] 0)) (.cells (boxG c w1.heap.size (.slice none 0 0) 0 0) 52)
  have EB := heap_alloc_new (w1.alloc (.map #[] 0)) (.cells (boxG c w1.heap.size (.slice none 0 0) 0 0) 52)
  rw [World.size_alloc] at EB
  have hs := (unhide B1).size
  refine ⟨w1.heap.size + 1, w1.heap.size, rfl, ⟨EB, (MapIs.made w1).at (B3.block _ (by simp)), World.ownsRow_nil _ _ _ _, fun e he => (by cases he), fun e he => (by cases he), by simp; omega, by simp; omega, fun g hg => (by simp [Value.ownBlock] at hg), fun i hi => ?_⟩, tr2 (unhide B1) (tr2 B2 B3), by omega, by omega⟩
  have := B3.size
  simp at this ⊢
  omega

theorem run_field_ov (x : Ga) (sp : Option Addr) (m sc : Nat) (w : World) : (Instr.field 59 (gaV x (.slice sp m sc)) 2).run Try.prog w = .ok (.int .i64 x.ov) w := by
  have hu := Try.underlying59
  have ga := Try.isAgg2
  simp [Instr.field, run_underlying hu, part, asAgg, ga]
section
variable {No : Nat → Prop} {w : World} {p b : Nat} {c : Cf} {L : List En} {ks : List Pk} {o : Value} {held last : Int}
/-- the first key of the row -/
theorem GX.first (h : GX No w p b c L ks o held last) {k : Pk} {r : List Pk} (hk : ks = k :: r) : ∃ g cap, o = .slice (some ⟨g, 0, none⟩) (r.length + 1) cap ∧ g < w.heap.size ∧ KB w g k := by
  subst hk
  rcases own_pr4 h.row with ⟨_, e⟩ | ⟨g, cap, cur, e, _, _, _, hP⟩
  · cases e
  · have hf : fK (k :: r) 0 = k := rfl
    have hl : 0 < (k :: r).length := by simp
    refine ⟨g, cap, e, hP.lt, ⟨?_, ?_, ?_, ?_⟩⟩
    · rw [hP.cell]; have := hP.c0 0 hl; rw [hf] at this; exact this
    · rw [hP.cell]; have := hP.c1 0 hl; rw [hf] at this; exact this
    · rw [hP.cell]; have := hP.c2 0 hl; rw [hf] at this; exact this
    · rw [hP.cell]; have := hP.c3 0 hl; rw [hf] at this; exact this

set_option maxRecDepth 20000 in
set_option maxHeartbeats 1000000 in
theorem next_any (h : GX No w p b c L ks o held last) {k : Pk} {r : List Pk} (hk : ks = k :: r) (hin : k.In) {e : En} (he : lookE k L = some e) :
    Calls Try.prog 9 #[.pointer (some ⟨p, 0, none⟩)] w fun x w' => x = .returned (.tuple #[.int .i64 e.a.ov, .bool true]) ∧ Below w.heap.size w w' := by
  have H := hide (made_ok p b w (h.cell rfl))
  obtain ⟨g, cap, ho, hg, hK⟩ := h.first hk
  have hpv := h.pv e (lookE_some he).1
  obtain ⟨sp, sc, hv⟩ := pv_shape hpv
  have c4 : w.cell? ⟨p, 4, none⟩ = some (.map (some b)) := h.cell rfl
  have c5 : w.cell? ⟨p, 5, none⟩ = some o := h.cell rfl
  rw [ho] at c5
  have hl := (h.below ((Below.refl _ _).drew)).map.look_some hin he false
  simp only [Bool.false_eq_true, if_false] at hl
  rw [hv] at hl
  simp only [gaV] at hl
  obtain ⟨k0, k1, k2, k3⟩ := hK
  have r4 := cell_regrown c4
  have r5 := cell_regrown c5
  have q0 := cell_regrown k0
  have q1 := cell_regrown k1
  have q2 := cell_regrown k2
  have q3 := cell_regrown k3
  clear hpv he hk h
  generalize r.length = n at *
  generalize e.a.ps.length = m at *
  go_enter Try.func9, Try.ntmps9
  go_wp2_with fail
  refine (unhide H).mono ?_
  rintro x w1 ⟨rfl, rfl⟩
  go_wp2_with fail
  have hf := run_field_ov e.a sp m sc
  go_region
  go_wp2
  refine bodyPost_ret (v := .tuple #[.int .i64 e.a.ov, .bool true]) (by simp [results, Try.results9, go_sem]) rfl ⟨rfl, (Below.refl _ _).drew⟩
end

end Go.Proofs.Ytekljiakofmhnaa
