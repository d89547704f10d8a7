/- The contracts of package route's Add, Drop, over the loaded program. -/
import Derived.Test.YtmicgkoicmeflaaRn11
namespace Go.Proofs.Ytmicgkoicmeflaa
open Go.RowKit Go.Maps

abbrev rtCs (r : Rt) : Array Value := #[.int .u32 (r.n : Int), .int .i64 r.b, .int .u32 (r.v : Int), .int .i64 r.c, .int .u32 (r.s : Int)]
abbrev zCs : Array Value := #[.int .u32 0, .int .i64 0, .int .u32 0, .int .i64 0, .int .u32 0]

theorem below_cell {W w1 : World} {a : Addr} {v : Value} (h : W.cell? a = some v) (hb : Below W.heap.size W w1) : w1.cell? a = some v := (hb.cell (cell_lt' h)).trans h

theorem addE_ok {r : Rt} {L : List Rt} (hm : mayR r) (hf : (lookR r.n r.b L).isSome = true ∨ L.length < 1024) : addE r L = 0 := by
  unfold addE
  rw [if_neg (Classical.not_not.2 hm), if_neg]
  rintro ⟨h1, h2⟩
  rcases hf with h | h
  · rw [h] at h1; cases h1
  · omega
theorem OkL.added {L : List Rt} (h : OkL L) {r : Rt} (hr : Rin r) (hm : mayR r) (hf : (lookR r.n r.b L).isSome = true ∨ L.length < 1024) : OkL (addR r L) := by
  have := h.add hr
  unfold addT at this
  rwa [if_pos (addE_ok hm hf)] at this

section
variable {w : World} {p b : Nat} {L : List Rt}
set_option maxRecDepth 100000 in
set_option maxHeartbeats 1000000 in
theorem add_no (h : PT w p b L) (r : Rt) (hr : Rin r) (hm : ¬ mayR r) :
    Calls Try.prog 10 #[.pointer (some ⟨p, 0, none⟩), rtV r] w fun e w' => e = .returned (.int .i64 2) ∧ Below w.heap.size w w' := by
  have H1 := hide (made_ok p b (w.alloc (.cells (rtCs r) 32)) (h.below (below_one w _)).cell)
  have H2 := mayBe_any r (w.alloc (.cells (rtCs r) 32)) hr
  rw [decide_eq_false hm] at H2
  have H2 := hide H2
  have B0 := hide (below_one w (.cells (rtCs r) 32))
  clear h hm
  go_enter Try.func10, Try.ntmps10
  go_wp2_with fail
  refine (unhide H1).mono ?_
  rintro e w1 ⟨rfl, rfl⟩
  go_wp2_with fail
  refine (unhide H2).mono ?_
  rintro e w2 ⟨rfl, b2⟩
  have B2 := hide (tr2 (unhide B0) b2)
  clear b2
  go_wp2_with fail
  go_ret
  exact ⟨rfl, unhide B2⟩

set_option maxRecDepth 100000 in
set_option maxHeartbeats 1000000 in
theorem add_there (h : PT w p b L) (r : Rt) (hr : Rin r) (hm : mayR r) (y : Rt) (hl : lookR r.n r.b L = some y) :
    Calls Try.prog 10 #[.pointer (some ⟨p, 0, none⟩), rtV r] w fun e w' => e = .returned (.int .i64 0) ∧ PT w' p b (addR r L) ∧ w.grownBy w' (some b) := by
  have H1 := hide (made_ok p b (w.alloc (.cells (rtCs r) 32)) (h.below (below_one w _)).cell)
  have H2 := mayBe_any r (w.alloc (.cells (rtCs r) 32)) hr
  rw [decide_eq_true hm] at H2
  have H2 := hide H2
  have B0 := hide (below_one w (.cells (rtCs r) 32))
  have HP := hide h
  have hm' := hide hm
  have e0 := heap_alloc_new w (.cells (rtCs r) 32)
  have hsz : (w.alloc (.cells (rtCs r) 32)).heap.size = w.heap.size + 1 := by simp
  have hplt := h.plt
  clear h hm
  go_enter Try.func10, Try.ntmps10
  go_wp2_with fail
  refine (unhide H1).mono ?_
  rintro e w1 ⟨rfl, rfl⟩
  go_wp2_with fail
  refine (unhide H2).mono ?_
  rintro e w2 ⟨rfl, b2⟩
  have c0 := below_cell (cell_of_row _ _ 0 _ _ _ e0) b2
  have c1 := below_cell (cell_of_row _ _ 1 _ _ _ e0) b2
  have c2 := below_cell (cell_of_row _ _ 2 _ _ _ e0) b2
  have c3 := below_cell (cell_of_row _ _ 3 _ _ _ e0) b2
  have c4 := below_cell (cell_of_row _ _ 4 _ _ _ e0) b2
  have hlt2 : w.heap.size < w2.heap.size := by have := b2.size; omega
  have P2 := (unhide HP).below (tr2 (unhide B0) b2)
  have B2 := hide (tr2 (unhide B0) b2)
  have cp := P2.cell
  have P2' := hide P2
  clear b2 e0 hsz P2
  go_wp2_with fail
  have B3 := hide (below_one w2 (.cells #[.int .u32 (r.n : Int), .int .i64 r.b] 57))
  have e3 := heap_alloc_new w2 (.cells #[.int .u32 (r.n : Int), .int .i64 r.b] 57)
  have q0 := cell_of_row _ _ 0 _ _ _ e3
  have q1 := cell_of_row _ _ 1 _ _ _ e3
  have P3 := (unhide P2').below (unhide B3)
  have cp3 := P3.cell
  have d0 := below_cell c0 (unhide B3)
  have d1 := below_cell c1 (unhide B3)
  have d2 := below_cell c2 (unhide B3)
  have d3 := below_cell c3 (unhide B3)
  have d4 := below_cell c4 (unhide B3)
  have hl1 : (Instr.lookup 53 (.map (some b)) (kyV r.n r.b) true).run Try.prog (w2.alloc (.cells #[.int .u32 (r.n : Int), .int .i64 r.b] 57)).drew = .ok (.tuple #[rtV y, .bool true]) (w2.alloc (.cells #[.int .u32 (r.n : Int), .int .i64 r.b] 57)).drew := (P3.below (below_drew _)).look_some hr.key hl
  have hl2 : (Instr.lookup 53 (.map (some b)) (kyV r.n r.b) true).run Try.prog ((w2.alloc (.cells #[.int .u32 (r.n : Int), .int .i64 r.b] 57)).alloc (.cells zCs 32)).drew = .ok (.tuple #[rtV y, .bool true]) ((w2.alloc (.cells #[.int .u32 (r.n : Int), .int .i64 r.b] 57)).alloc (.cells zCs 32)).drew := ((P3.below (below_one _ _)).below (below_drew _)).look_some hr.key hl
  have P3' := hide P3
  have hlt3 : w.heap.size < (w2.alloc (.cells #[.int .u32 (r.n : Int), .int .i64 r.b] 57)).heap.size := by simp; omega
  have hlt4 : w2.heap.size < (w2.alloc (.cells #[.int .u32 (r.n : Int), .int .i64 r.b] 57)).heap.size := by simp
  have hlt5 : p < (w2.alloc (.cells #[.int .u32 (r.n : Int), .int .i64 r.b] 57)).heap.size := P3.plt
  clear P3 P2' e3 c0 c1 c2 c3 c4 cp
  generalize w2.alloc (.cells #[.int .u32 (r.n : Int), .int .i64 r.b] 57) = w3 at *
  have hok : OkL (addR r L) := (unhide HP).ok.added hr (unhide hm') (.inl (by rw [hl]; rfl))
  have hok := hide hok
  go_region
  all_goals
    clear hl1 hl2
    have B4 := hide (tr2 (below_one w3 (.cells (rtCs y) 32)) (below_drew _))
    have P4 := (unhide P3').below (unhide B4)
    have cp4 := P4.cell
    have u0 := below_cell q0 (unhide B4)
    have u1 := below_cell q1 (unhide B4)
    have v0 := below_cell d0 (unhide B4)
    have v1 := below_cell d1 (unhide B4)
    have v2 := below_cell d2 (unhide B4)
    have v3 := below_cell d3 (unhide B4)
    have v4 := below_cell d4 (unhide B4)
    obtain ⟨w5, hst, P5, g5⟩ := (P4.below (below_drew _)).store hr (unhide hok)
    have FIN := hide (And.intro P5 (grown_trans (grown_of (tr2 (tr2 (unhide B2) (unhide B3)) (tr2 (unhide B4) (below_drew _))) (some b)) g5))
    have l3 := below_drew w3
    clear q0 q1 d0 d1 d2 d3 d4 cp3 P4 P5 g5 l3 hl hok
    generalize (w3.alloc (.cells (rtCs y) 32)).drew = w4 at *
    go_wp2_with fail
    go_region
    go_wp2
    go_ret
    exact ⟨rfl, unhide FIN⟩
set_option maxRecDepth 100000 in
set_option maxHeartbeats 1000000 in
theorem add_new (h : PT w p b L) (r : Rt) (hr : Rin r) (hm : mayR r) (hl : lookR r.n r.b L = none) (hlen : L.length < 1024) :
    Calls Try.prog 10 #[.pointer (some ⟨p, 0, none⟩), rtV r] w fun e w' => e = .returned (.int .i64 0) ∧ PT w' p b (addR r L) ∧ w.grownBy w' (some b) := by
  have H1 := hide (made_ok p b (w.alloc (.cells (rtCs r) 32)) (h.below (below_one w _)).cell)
  have H2 := mayBe_any r (w.alloc (.cells (rtCs r) 32)) hr
  rw [decide_eq_true hm] at H2
  have H2 := hide H2
  have B0 := hide (below_one w (.cells (rtCs r) 32))
  have HP := hide h
  have hm' := hide hm
  have e0 := heap_alloc_new w (.cells (rtCs r) 32)
  have hsz : (w.alloc (.cells (rtCs r) 32)).heap.size = w.heap.size + 1 := by simp
  have hplt := h.plt
  clear h hm
  go_enter Try.func10, Try.ntmps10
  go_wp2_with fail
  refine (unhide H1).mono ?_
  rintro e w1 ⟨rfl, rfl⟩
  go_wp2_with fail
  refine (unhide H2).mono ?_
  rintro e w2 ⟨rfl, b2⟩
  have c0 := below_cell (cell_of_row _ _ 0 _ _ _ e0) b2
  have c1 := below_cell (cell_of_row _ _ 1 _ _ _ e0) b2
  have c2 := below_cell (cell_of_row _ _ 2 _ _ _ e0) b2
  have c3 := below_cell (cell_of_row _ _ 3 _ _ _ e0) b2
  have c4 := below_cell (cell_of_row _ _ 4 _ _ _ e0) b2
  have hlt2 : w.heap.size < w2.heap.size := by have := b2.size; omega
  have P2 := (unhide HP).below (tr2 (unhide B0) b2)
  have B2 := hide (tr2 (unhide B0) b2)
  have cp := P2.cell
  have P2' := hide P2
  clear b2 e0 hsz P2
  go_wp2_with fail
  have B3 := hide (below_one w2 (.cells #[.int .u32 (r.n : Int), .int .i64 r.b] 57))
  have e3 := heap_alloc_new w2 (.cells #[.int .u32 (r.n : Int), .int .i64 r.b] 57)
  have q0 := cell_of_row _ _ 0 _ _ _ e3
  have q1 := cell_of_row _ _ 1 _ _ _ e3
  have P3 := (unhide P2').below (unhide B3)
  have cp3 := P3.cell
  have d0 := below_cell c0 (unhide B3)
  have d1 := below_cell c1 (unhide B3)
  have d2 := below_cell c2 (unhide B3)
  have d3 := below_cell c3 (unhide B3)
  have d4 := below_cell c4 (unhide B3)
  have hl1 : (Instr.lookup 53 (.map (some b)) (kyV r.n r.b) true).run Try.prog (w2.alloc (.cells #[.int .u32 (r.n : Int), .int .i64 r.b] 57)).drew = .ok (.tuple #[rtZ, .bool false]) (w2.alloc (.cells #[.int .u32 (r.n : Int), .int .i64 r.b] 57)).drew := (P3.below (below_drew _)).look_none hr.key hl
  have hl2 : (Instr.lookup 53 (.map (some b)) (kyV r.n r.b) true).run Try.prog ((w2.alloc (.cells #[.int .u32 (r.n : Int), .int .i64 r.b] 57)).alloc (.cells zCs 32)).drew = .ok (.tuple #[rtZ, .bool false]) ((w2.alloc (.cells #[.int .u32 (r.n : Int), .int .i64 r.b] 57)).alloc (.cells zCs 32)).drew := ((P3.below (below_one _ _)).below (below_drew _)).look_none hr.key hl
  have P3' := hide P3
  have hlt3 : w.heap.size < (w2.alloc (.cells #[.int .u32 (r.n : Int), .int .i64 r.b] 57)).heap.size := by simp; omega
  have hlt4 : w2.heap.size < (w2.alloc (.cells #[.int .u32 (r.n : Int), .int .i64 r.b] 57)).heap.size := by simp
  have hlt5 : p < (w2.alloc (.cells #[.int .u32 (r.n : Int), .int .i64 r.b] 57)).heap.size := P3.plt
  clear P3 P2' e3 c0 c1 c2 c3 c4 cp
  generalize w2.alloc (.cells #[.int .u32 (r.n : Int), .int .i64 r.b] 57) = w3 at *
  have hok : OkL (addR r L) := (unhide HP).ok.added hr (unhide hm') (.inr hlen)
  have hok := hide hok
  go_region
  all_goals
    clear hl1 hl2
    have B4 := hide (tr2 (below_one w3 (.cells (zCs) 32)) (below_drew _))
    have P4 := (unhide P3').below (unhide B4)
    have cp4 := P4.cell
    have u0 := below_cell q0 (unhide B4)
    have u1 := below_cell q1 (unhide B4)
    have v0 := below_cell d0 (unhide B4)
    have v1 := below_cell d1 (unhide B4)
    have v2 := below_cell d2 (unhide B4)
    have v3 := below_cell d3 (unhide B4)
    have v4 := below_cell d4 (unhide B4)
    obtain ⟨w5, hst, P5, g5⟩ := (P4.below (below_drew _)).store hr (unhide hok)
    have hsz := P4.size
    have hge : decide ((1024 : Int) ≤ (L.length : Int)) = false := decide_eq_false (by omega)
    have FIN := hide (And.intro P5 (grown_trans (grown_of (tr2 (tr2 (unhide B2) (unhide B3)) (tr2 (unhide B4) (below_drew _))) (some b)) g5))
    have l3 := below_drew w3
    clear q0 q1 d0 d1 d2 d3 d4 cp3 P4 P5 g5 l3 hl hok hlen
    generalize (w3.alloc (.cells (zCs) 32)).drew = w4 at *
    go_wp2_with fail
    go_region
    go_wp2
    go_ret
    exact ⟨rfl, unhide FIN⟩

set_option maxRecDepth 100000 in
set_option maxHeartbeats 1000000 in
theorem add_full (h : PT w p b L) (r : Rt) (hr : Rin r) (hm : mayR r) (hl : lookR r.n r.b L = none) (hlen : 1024 ≤ L.length) :
    Calls Try.prog 10 #[.pointer (some ⟨p, 0, none⟩), rtV r] w fun e w' => e = .returned (.int .i64 6) ∧ Below w.heap.size w w' := by
  have H1 := hide (made_ok p b (w.alloc (.cells (rtCs r) 32)) (h.below (below_one w _)).cell)
  have H2 := mayBe_any r (w.alloc (.cells (rtCs r) 32)) hr
  rw [decide_eq_true hm] at H2
  have H2 := hide H2
  have B0 := hide (below_one w (.cells (rtCs r) 32))
  have HP := hide h
  have e0 := heap_alloc_new w (.cells (rtCs r) 32)
  have hsz : (w.alloc (.cells (rtCs r) 32)).heap.size = w.heap.size + 1 := by simp
  have hplt := h.plt
  clear h hm
  go_enter Try.func10, Try.ntmps10
  go_wp2_with fail
  refine (unhide H1).mono ?_
  rintro e w1 ⟨rfl, rfl⟩
  go_wp2_with fail
  refine (unhide H2).mono ?_
  rintro e w2 ⟨rfl, b2⟩
  have c0 := below_cell (cell_of_row _ _ 0 _ _ _ e0) b2
  have c1 := below_cell (cell_of_row _ _ 1 _ _ _ e0) b2
  have c2 := below_cell (cell_of_row _ _ 2 _ _ _ e0) b2
  have c3 := below_cell (cell_of_row _ _ 3 _ _ _ e0) b2
  have c4 := below_cell (cell_of_row _ _ 4 _ _ _ e0) b2
  have hlt2 : w.heap.size < w2.heap.size := by have := b2.size; omega
  have P2 := (unhide HP).below (tr2 (unhide B0) b2)
  have B2 := hide (tr2 (unhide B0) b2)
  have cp := P2.cell
  have P2' := hide P2
  clear b2 e0 hsz P2
  go_wp2_with fail
  have B3 := hide (below_one w2 (.cells #[.int .u32 (r.n : Int), .int .i64 r.b] 57))
  have e3 := heap_alloc_new w2 (.cells #[.int .u32 (r.n : Int), .int .i64 r.b] 57)
  have q0 := cell_of_row _ _ 0 _ _ _ e3
  have q1 := cell_of_row _ _ 1 _ _ _ e3
  have P3 := (unhide P2').below (unhide B3)
  have cp3 := P3.cell
  have d0 := below_cell c0 (unhide B3)
  have d1 := below_cell c1 (unhide B3)
  have d2 := below_cell c2 (unhide B3)
  have d3 := below_cell c3 (unhide B3)
  have d4 := below_cell c4 (unhide B3)
  have hl1 : (Instr.lookup 53 (.map (some b)) (kyV r.n r.b) true).run Try.prog (w2.alloc (.cells #[.int .u32 (r.n : Int), .int .i64 r.b] 57)).drew = .ok (.tuple #[rtZ, .bool false]) (w2.alloc (.cells #[.int .u32 (r.n : Int), .int .i64 r.b] 57)).drew := (P3.below (below_drew _)).look_none hr.key hl
  have hl2 : (Instr.lookup 53 (.map (some b)) (kyV r.n r.b) true).run Try.prog ((w2.alloc (.cells #[.int .u32 (r.n : Int), .int .i64 r.b] 57)).alloc (.cells zCs 32)).drew = .ok (.tuple #[rtZ, .bool false]) ((w2.alloc (.cells #[.int .u32 (r.n : Int), .int .i64 r.b] 57)).alloc (.cells zCs 32)).drew := ((P3.below (below_one _ _)).below (below_drew _)).look_none hr.key hl
  have P3' := hide P3
  have hlt3 : w.heap.size < (w2.alloc (.cells #[.int .u32 (r.n : Int), .int .i64 r.b] 57)).heap.size := by simp; omega
  have hlt4 : w2.heap.size < (w2.alloc (.cells #[.int .u32 (r.n : Int), .int .i64 r.b] 57)).heap.size := by simp
  have hlt5 : p < (w2.alloc (.cells #[.int .u32 (r.n : Int), .int .i64 r.b] 57)).heap.size := P3.plt
  clear P3 P2' e3 c0 c1 c2 c3 c4 cp
  generalize w2.alloc (.cells #[.int .u32 (r.n : Int), .int .i64 r.b] 57) = w3 at *
  go_region
  all_goals
    clear hl1 hl2
    have B4 := hide (tr2 (below_one w3 (.cells (zCs) 32)) (below_drew _))
    have P4 := (unhide P3').below (unhide B4)
    have cp4 := P4.cell
    have u0 := below_cell q0 (unhide B4)
    have u1 := below_cell q1 (unhide B4)
    have v0 := below_cell d0 (unhide B4)
    have v1 := below_cell d1 (unhide B4)
    have v2 := below_cell d2 (unhide B4)
    have v3 := below_cell d3 (unhide B4)
    have v4 := below_cell d4 (unhide B4)
    have hsz := P4.size
    have hge : decide ((1024 : Int) ≤ (L.length : Int)) = true := decide_eq_true (by omega)
    have FIN := hide (tr2 (tr2 (unhide B2) (unhide B3)) (unhide B4))
    have l3 := below_drew w3
    clear q0 q1 d0 d1 d2 d3 d4 cp3 P4 l3 hl hlen
    generalize (w3.alloc (.cells (zCs) 32)).drew = w4 at *
    go_wp2_with fail
    go_ret
    exact ⟨rfl, unhide FIN⟩

theorem add_any (h : PT w p b L) (r : Rt) (hr : Rin r) :
    Calls Try.prog 10 #[.pointer (some ⟨p, 0, none⟩), rtV r] w fun e w' => e = .returned (.int .i64 (addE r L)) ∧ PT w' p b (addT r L) ∧ w.grownBy w' (some b) := by
  by_cases hm : mayR r
  · cases e : lookR r.n r.b L with
    | some y =>
      have e0 := addE_ok (L := L) hm (.inl (by rw [e]; rfl))
      unfold addT
      rw [if_pos e0, e0]
      exact add_there h r hr hm y e
    | none =>
      by_cases hl : L.length < 1024
      · have e0 := addE_ok (L := L) hm (.inr hl)
        unfold addT
        rw [if_pos e0, e0]
        exact add_new h r hr hm e hl
      · have e0 : addE r L = 6 := by
          unfold addE
          rw [if_neg (Classical.not_not.2 hm), if_pos ⟨by rw [e]; rfl, by omega⟩]
        unfold addT
        rw [e0, if_neg (by decide)]
        exact (add_full h r hr hm e (by omega)).mono fun _ _ k => ⟨k.1, h.below k.2, grown_of k.2 _⟩
  · have e0 : addE r L = 2 := if_pos hm
    unfold addT
    rw [e0, if_neg (by decide)]
    exact (add_no h r hr hm).mono fun _ _ k => ⟨k.1, h.below k.2, grown_of k.2 _⟩

set_option maxRecDepth 100000 in
set_option maxHeartbeats 1000000 in
theorem drop_there (h : PT w p b L) (n : Nat) (c : Int) (hk : Kin n c) (y : Rt) (hl : lookR n c L = some y) :
    Calls Try.prog 12 #[.pointer (some ⟨p, 0, none⟩), .int .u32 (n : Int), .int .i64 c] w fun e w' => e = .returned (.bool true) ∧ PT w' p b (delR n c L) ∧ w.grownBy w' (some b) := by
  have H1 := hide (made_ok p b w h.cell)
  have HP := hide h
  have hplt := h.plt
  clear h
  go_enter Try.func12, Try.ntmps12
  go_wp2_with fail
  refine (unhide H1).mono ?_
  rintro e w2 ⟨rfl, rfl⟩
  go_wp2_with fail
  have B3 := hide (below_one w2 (.cells #[.int .u32 (n : Int), .int .i64 c] 57))
  have e3 := heap_alloc_new w2 (.cells #[.int .u32 (n : Int), .int .i64 c] 57)
  have q0 := cell_of_row _ _ 0 _ _ _ e3
  have q1 := cell_of_row _ _ 1 _ _ _ e3
  have P3 := (unhide HP).below (unhide B3)
  have cp3 := P3.cell
  have hl1 : (Instr.lookup 53 (.map (some b)) (kyV n c) true).run Try.prog (w2.alloc (.cells #[.int .u32 (n : Int), .int .i64 c] 57)).drew = .ok (.tuple #[rtV y, .bool true]) (w2.alloc (.cells #[.int .u32 (n : Int), .int .i64 c] 57)).drew := (P3.below (below_drew _)).look_some hk hl
  have hl2 : (Instr.lookup 53 (.map (some b)) (kyV n c) true).run Try.prog ((w2.alloc (.cells #[.int .u32 (n : Int), .int .i64 c] 57)).alloc (.cells zCs 32)).drew = .ok (.tuple #[rtV y, .bool true]) ((w2.alloc (.cells #[.int .u32 (n : Int), .int .i64 c] 57)).alloc (.cells zCs 32)).drew := ((P3.below (below_one _ _)).below (below_drew _)).look_some hk hl
  have P3' := hide P3
  have hlt4 : w2.heap.size < (w2.alloc (.cells #[.int .u32 (n : Int), .int .i64 c] 57)).heap.size := by simp
  have hlt5 : p < (w2.alloc (.cells #[.int .u32 (n : Int), .int .i64 c] 57)).heap.size := P3.plt
  clear P3 e3
  generalize w2.alloc (.cells #[.int .u32 (n : Int), .int .i64 c] 57) = w3 at *
  go_region
  all_goals
    clear hl1 hl2
    have B4 := hide (tr2 (below_one w3 (.cells (rtCs y) 32)) (below_drew _))
    have P4 := (unhide P3').below (unhide B4)
    have cp4 := P4.cell
    have u0 := below_cell q0 (unhide B4)
    have u1 := below_cell q1 (unhide B4)
    obtain ⟨w5, hst, P5, g5⟩ := (P4.below (below_drew _)).drop hk
    have FIN := hide (And.intro P5 (grown_trans (grown_of (tr2 (unhide B3) (tr2 (unhide B4) (below_drew _))) (some b)) g5))
    clear q0 q1 cp3 P4 P5 g5 hl
    generalize (w3.alloc (.cells (rtCs y) 32)).drew = w4 at *
    go_wp2_with fail
    go_region
    go_wp2
    go_ret
    exact ⟨rfl, unhide FIN⟩

set_option maxRecDepth 100000 in
set_option maxHeartbeats 1000000 in
theorem drop_none (h : PT w p b L) (n : Nat) (c : Int) (hk : Kin n c) (hl : lookR n c L = none) :
    Calls Try.prog 12 #[.pointer (some ⟨p, 0, none⟩), .int .u32 (n : Int), .int .i64 c] w fun e w' => e = .returned (.bool false) ∧ PT w' p b (delR n c L) ∧ w.grownBy w' (some b) := by
  have H1 := hide (made_ok p b w h.cell)
  have HP := hide h
  have hplt := h.plt
  clear h
  go_enter Try.func12, Try.ntmps12
  go_wp2_with fail
  refine (unhide H1).mono ?_
  rintro e w2 ⟨rfl, rfl⟩
  go_wp2_with fail
  have B3 := hide (below_one w2 (.cells #[.int .u32 (n : Int), .int .i64 c] 57))
  have e3 := heap_alloc_new w2 (.cells #[.int .u32 (n : Int), .int .i64 c] 57)
  have q0 := cell_of_row _ _ 0 _ _ _ e3
  have q1 := cell_of_row _ _ 1 _ _ _ e3
  have P3 := (unhide HP).below (unhide B3)
  have cp3 := P3.cell
  have hl1 : (Instr.lookup 53 (.map (some b)) (kyV n c) true).run Try.prog (w2.alloc (.cells #[.int .u32 (n : Int), .int .i64 c] 57)).drew = .ok (.tuple #[rtZ, .bool false]) (w2.alloc (.cells #[.int .u32 (n : Int), .int .i64 c] 57)).drew := (P3.below (below_drew _)).look_none hk hl
  have hl2 : (Instr.lookup 53 (.map (some b)) (kyV n c) true).run Try.prog ((w2.alloc (.cells #[.int .u32 (n : Int), .int .i64 c] 57)).alloc (.cells zCs 32)).drew = .ok (.tuple #[rtZ, .bool false]) ((w2.alloc (.cells #[.int .u32 (n : Int), .int .i64 c] 57)).alloc (.cells zCs 32)).drew := ((P3.below (below_one _ _)).below (below_drew _)).look_none hk hl
  have P3' := hide P3
  have hlt4 : w2.heap.size < (w2.alloc (.cells #[.int .u32 (n : Int), .int .i64 c] 57)).heap.size := by simp
  have hlt5 : p < (w2.alloc (.cells #[.int .u32 (n : Int), .int .i64 c] 57)).heap.size := P3.plt
  clear P3 e3
  generalize w2.alloc (.cells #[.int .u32 (n : Int), .int .i64 c] 57) = w3 at *
  go_region
  all_goals
    clear hl1 hl2
    have B4 := hide (tr2 (below_one w3 (.cells (zCs) 32)) (below_drew _))
    have P4 := (unhide P3').below (unhide B4)
    have cp4 := P4.cell
    have u0 := below_cell q0 (unhide B4)
    have u1 := below_cell q1 (unhide B4)
    obtain ⟨w5, hst, P5, g5⟩ := (P4.below (below_drew _)).drop hk
    have FIN := hide (And.intro P5 (grown_trans (grown_of (tr2 (unhide B3) (tr2 (unhide B4) (below_drew _))) (some b)) g5))
    clear q0 q1 cp3 P4 P5 g5 hl
    generalize (w3.alloc (.cells (zCs) 32)).drew = w4 at *
    go_wp2_with fail
    go_region
    go_wp2
    go_ret
    exact ⟨rfl, unhide FIN⟩

theorem drop_any (h : PT w p b L) (n : Nat) (c : Int) (hk : Kin n c) :
    Calls Try.prog 12 #[.pointer (some ⟨p, 0, none⟩), .int .u32 (n : Int), .int .i64 c] w fun e w' => e = .returned (.bool (lookR n c L).isSome) ∧ PT w' p b (delR n c L) ∧ w.grownBy w' (some b) := by
  cases e : lookR n c L with
  | some y => exact drop_there h n c hk y e
  | none => exact drop_none h n c hk e
end
end Go.Proofs.Ytmicgkoicmeflaa
