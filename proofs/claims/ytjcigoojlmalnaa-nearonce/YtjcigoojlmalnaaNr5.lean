/- Whether one packet more may wait: hasRoom of package near, over the loaded program. -/
import Derived.Test.YtjcigoojlmalnaaNr4
import Derived.Lib.QuietBelow
namespace Go.Proofs.Ytjcigoojlmalnaa
open Go.RowKit Go.Maps

def roomB (c : Cf) (L : Ens) (ip : Nat) : Bool := match lookN ip L with
  | some e => decide (e.ws.length < c.each ∧ tot L < c.waits)
  | none => decide (L.length < c.most ∧ 0 < c.each ∧ tot L < c.waits)

section
variable {No : Nat → Prop} {w : World} {p b : Nat} {c : Cf} {last : Nat} {L : Ens}
theorem rgN {f : FuncId} {args : Array Value} {v : Value} (h : PN No w p b c last L) (H : ∀ W, PN No W p b c last L → Calls Try.prog f args W fun e w' => e = .returned v ∧ Below W.heap.size W w') (d : Nat) (os : Array Obj) :
    Calls Try.prog f args (Sort.grow (redrawn w d) os) fun e w'' => e = .returned v ∧ ∃ p : Regrown, w'' = Sort.grow (redrawn w p.d) p.os := Calls.regrown_of (H _ (h.below (below_regrown w d os)))
theorem full_below (h : PN No w p b c last L) :
    Calls Try.prog 22 #[.pointer (some ⟨p, 0, none⟩)] w fun e w' => e = .returned (.bool (decide (c.most ≤ L.length))) ∧ Below w.heap.size w w' :=
  (full_any h).mono fun _ _ ⟨he, _, hw⟩ => ⟨he, hw ▸ ⟨rfl, rfl, rfl, Nat.le_refl _, fun _ _ => rfl⟩⟩

set_option maxRecDepth 100000 in
set_option maxHeartbeats 1000000 in
theorem room_s0 (h : PN No w p b c last L) {ip : Nat} (hip : ip < 12) {x : En} (he : lookN ip L = some x) (hr : ¬ x.ws.length < c.each) :
    Calls Try.prog 20 #[.pointer (some ⟨p, 0, none⟩), .int .u32 (ip : Int)] w fun e w' => e = .returned (.bool false) ∧ Below w.heap.size w w' := by
  have hP := h
  obtain ⟨f, h⟩ := h
  have hc := box6 h
  have h1 : w.cell? ⟨p, 1, none⟩ = some (.int .i64 (c.waits : Int)) := h.cell rfl
  have h2 : w.cell? ⟨p, 2, none⟩ = some (.int .i64 (c.each : Int)) := h.cell rfl
  have hl := h.look_some hip he true
  simp only [if_true, evE] at hl
  obtain ⟨sp, sc, hsl⟩ := row_shape (h.row (ip, x) (lookN_some he))
  simp only at hsl
  rw [hsl] at hl
  obtain ⟨s, m, t, a, ws⟩ := x
  simp only at hl hr
  generalize ws.length = k at hl hr
  clear hsl he
  have hB := below_one w (.cells #[.int .u8 (s : Int), .int .u64 (m : Int), .int .i64 (t : Int), .int .i64 (a : Int), .slice sp k sc] 58)
  have k4 : (w.alloc (.cells #[.int .u8 (s : Int), .int .u64 (m : Int), .int .i64 (t : Int), .int .i64 (a : Int), .slice sp k sc] 58)).cell? ⟨w.heap.size, 4, none⟩ = some (.slice sp k sc) := by simp [go_sem]
  have hP1 := hP.below hB
  have e1 := (hB.cell (p := ⟨p, 1, none⟩) h.plt).trans h1
  have e2 := (hB.cell (p := ⟨p, 2, none⟩) h.plt).trans h2
  have g1 : decide (k < c.each) = false := decide_eq_false hr
  clear hr
  clear h hP h1 h2
  go_enter Try.func20, Try.ntmps20
  go_wp2_with fail
  generalize w.alloc (.cells #[.int .u8 (s : Int), .int .u64 (m : Int), .int .i64 (t : Int), .int .i64 (a : Int), .slice sp k sc] 58) = w1 at *
  have r1 := cell_regrown e1
  have r2 := cell_regrown e2
  have r4 := cell_regrown k4
  have qf := rgN hP1 (fun W h => full_below h)
  have qw := rgN hP1 (fun W h => waiting_any h)
  clear e1 e2 k4 hP1
  refine wp_region_quiet_below (by kernel_rfl) (by kernel_rfl) ?_
  repeat (go_big_quiet_step (fail))
  refine wpQuiet_nil ?_
  intro _ hw'
  obtain ⟨⟨dq, osq⟩, hw''⟩ := hw'
  subst hw''
  go_wp2
  go_ret
  exact ⟨rfl, hB.trans ((below_regrown _ _ _).mono hB.size)⟩

set_option maxRecDepth 100000 in
set_option maxHeartbeats 1000000 in
theorem room_s1 (h : PN No w p b c last L) {ip : Nat} (hip : ip < 12) {x : En} (he : lookN ip L = some x) (hr : x.ws.length < c.each) :
    Calls Try.prog 20 #[.pointer (some ⟨p, 0, none⟩), .int .u32 (ip : Int)] w fun e w' => e = .returned (.bool (decide (tot L < c.waits))) ∧ Below w.heap.size w w' := by
  have hP := h
  obtain ⟨f, h⟩ := h
  have hc := box6 h
  have h1 : w.cell? ⟨p, 1, none⟩ = some (.int .i64 (c.waits : Int)) := h.cell rfl
  have h2 : w.cell? ⟨p, 2, none⟩ = some (.int .i64 (c.each : Int)) := h.cell rfl
  have hl := h.look_some hip he true
  simp only [if_true, evE] at hl
  obtain ⟨sp, sc, hsl⟩ := row_shape (h.row (ip, x) (lookN_some he))
  simp only at hsl
  rw [hsl] at hl
  obtain ⟨s, m, t, a, ws⟩ := x
  simp only at hl hr
  generalize ws.length = k at hl hr
  clear hsl he
  have hB := below_one w (.cells #[.int .u8 (s : Int), .int .u64 (m : Int), .int .i64 (t : Int), .int .i64 (a : Int), .slice sp k sc] 58)
  have k4 : (w.alloc (.cells #[.int .u8 (s : Int), .int .u64 (m : Int), .int .i64 (t : Int), .int .i64 (a : Int), .slice sp k sc] 58)).cell? ⟨w.heap.size, 4, none⟩ = some (.slice sp k sc) := by simp [go_sem]
  have hP1 := hP.below hB
  have e1 := (hB.cell (p := ⟨p, 1, none⟩) h.plt).trans h1
  have e2 := (hB.cell (p := ⟨p, 2, none⟩) h.plt).trans h2
  have g1 : decide (k < c.each) = true := decide_eq_true hr
  clear hr
  clear h hP h1 h2
  go_enter Try.func20, Try.ntmps20
  go_wp2_with fail
  generalize w.alloc (.cells #[.int .u8 (s : Int), .int .u64 (m : Int), .int .i64 (t : Int), .int .i64 (a : Int), .slice sp k sc] 58) = w1 at *
  have r1 := cell_regrown e1
  have r2 := cell_regrown e2
  have r4 := cell_regrown k4
  have qf := rgN hP1 (fun W h => full_below h)
  have qw := rgN hP1 (fun W h => waiting_any h)
  clear e1 e2 k4 hP1
  refine wp_region_quiet_below (by kernel_rfl) (by kernel_rfl) ?_
  repeat (go_big_quiet_step (fail))
  go_big_quiet_step (exact qw _ _)
  repeat (go_big_quiet_step (fail))
  refine wpQuiet_nil ?_
  intro _ hw'
  obtain ⟨⟨dq, osq⟩, hw''⟩ := hw'
  subst hw''
  go_wp2
  go_ret
  exact ⟨rfl, hB.trans ((below_regrown _ _ _).mono hB.size)⟩

set_option maxRecDepth 100000 in
set_option maxHeartbeats 1000000 in
theorem room_n0 (h : PN No w p b c last L) {ip : Nat} (hip : ip < 12) (he : lookN ip L = none) (hr : c.most ≤ L.length) :
    Calls Try.prog 20 #[.pointer (some ⟨p, 0, none⟩), .int .u32 (ip : Int)] w fun e w' => e = .returned (.bool false) ∧ Below w.heap.size w w' := by
  have hP := h
  obtain ⟨f, h⟩ := h
  have hc := box6 h
  have h1 : w.cell? ⟨p, 1, none⟩ = some (.int .i64 (c.waits : Int)) := h.cell rfl
  have h2 : w.cell? ⟨p, 2, none⟩ = some (.int .i64 (c.each : Int)) := h.cell rfl
  have hl := h.look_none hip he true
  simp only [if_true] at hl
  have hB := below_one w (.cells #[.int .u8 0, .int .u64 0, .int .i64 0, .int .i64 0, .slice none 0 0] 58)
  have k4 : (w.alloc (.cells #[.int .u8 0, .int .u64 0, .int .i64 0, .int .i64 0, .slice none 0 0] 58)).cell? ⟨w.heap.size, 4, none⟩ = some (.slice none 0 0) := by simp [go_sem]
  have hP1 := hP.below hB
  have e1 := (hB.cell (p := ⟨p, 1, none⟩) h.plt).trans h1
  have e2 := (hB.cell (p := ⟨p, 2, none⟩) h.plt).trans h2
  have g1 : decide (c.most ≤ L.length) = true := decide_eq_true hr
  clear hr
  clear h hP h1 h2
  go_enter Try.func20, Try.ntmps20
  go_wp2_with fail
  generalize w.alloc (.cells #[.int .u8 0, .int .u64 0, .int .i64 0, .int .i64 0, .slice none 0 0] 58) = w1 at *
  have r1 := cell_regrown e1
  have r2 := cell_regrown e2
  have r4 := cell_regrown k4
  have qf := rgN hP1 (fun W h => full_below h)
  have qw := rgN hP1 (fun W h => waiting_any h)
  clear e1 e2 k4 hP1
  refine wp_region_quiet_below (by kernel_rfl) (by kernel_rfl) ?_
  repeat (go_big_quiet_step (fail))
  go_big_quiet_step (exact qf _ _)
  repeat (go_big_quiet_step (fail))
  refine wpQuiet_nil ?_
  intro _ hw'
  obtain ⟨⟨dq, osq⟩, hw''⟩ := hw'
  subst hw''
  go_wp2
  go_ret
  exact ⟨rfl, hB.trans ((below_regrown _ _ _).mono hB.size)⟩

set_option maxRecDepth 100000 in
set_option maxHeartbeats 1000000 in
theorem room_n1 (h : PN No w p b c last L) {ip : Nat} (hip : ip < 12) (he : lookN ip L = none) (hr : ¬ c.most ≤ L.length) (hz : ¬ 0 < c.each) :
    Calls Try.prog 20 #[.pointer (some ⟨p, 0, none⟩), .int .u32 (ip : Int)] w fun e w' => e = .returned (.bool false) ∧ Below w.heap.size w w' := by
  have hP := h
  obtain ⟨f, h⟩ := h
  have hc := box6 h
  have h1 : w.cell? ⟨p, 1, none⟩ = some (.int .i64 (c.waits : Int)) := h.cell rfl
  have h2 : w.cell? ⟨p, 2, none⟩ = some (.int .i64 (c.each : Int)) := h.cell rfl
  have hl := h.look_none hip he true
  simp only [if_true] at hl
  have hB := below_one w (.cells #[.int .u8 0, .int .u64 0, .int .i64 0, .int .i64 0, .slice none 0 0] 58)
  have k4 : (w.alloc (.cells #[.int .u8 0, .int .u64 0, .int .i64 0, .int .i64 0, .slice none 0 0] 58)).cell? ⟨w.heap.size, 4, none⟩ = some (.slice none 0 0) := by simp [go_sem]
  have hP1 := hP.below hB
  have e1 := (hB.cell (p := ⟨p, 1, none⟩) h.plt).trans h1
  have e2 := (hB.cell (p := ⟨p, 2, none⟩) h.plt).trans h2
  have g1 : decide (c.most ≤ L.length) = false := decide_eq_false hr
  have hz0 : c.each = 0 := by omega
  rw [hz0] at e2
  simp only [Int.cast_ofNat_Int] at e2
  clear hr hz hz0
  clear h hP h1 h2
  go_enter Try.func20, Try.ntmps20
  go_wp2_with fail
  generalize w.alloc (.cells #[.int .u8 0, .int .u64 0, .int .i64 0, .int .i64 0, .slice none 0 0] 58) = w1 at *
  have r1 := cell_regrown e1
  have r2 := cell_regrown e2
  have r4 := cell_regrown k4
  have qf := rgN hP1 (fun W h => full_below h)
  have qw := rgN hP1 (fun W h => waiting_any h)
  clear e1 e2 k4 hP1
  refine wp_region_quiet_below (by kernel_rfl) (by kernel_rfl) ?_
  repeat (go_big_quiet_step (fail))
  go_big_quiet_step (exact qf _ _)
  repeat (go_big_quiet_step (fail))
  refine wpQuiet_nil ?_
  intro _ hw'
  obtain ⟨⟨dq, osq⟩, hw''⟩ := hw'
  subst hw''
  go_wp2
  go_ret
  exact ⟨rfl, hB.trans ((below_regrown _ _ _).mono hB.size)⟩

set_option maxRecDepth 100000 in
set_option maxHeartbeats 1000000 in
theorem room_n2 (h : PN No w p b c last L) {ip : Nat} (hip : ip < 12) (he : lookN ip L = none) (hr : ¬ c.most ≤ L.length) (hz : 0 < c.each) :
    Calls Try.prog 20 #[.pointer (some ⟨p, 0, none⟩), .int .u32 (ip : Int)] w fun e w' => e = .returned (.bool (decide (tot L < c.waits))) ∧ Below w.heap.size w w' := by
  have hP := h
  obtain ⟨f, h⟩ := h
  have hc := box6 h
  have h1 : w.cell? ⟨p, 1, none⟩ = some (.int .i64 (c.waits : Int)) := h.cell rfl
  have h2 : w.cell? ⟨p, 2, none⟩ = some (.int .i64 (c.each : Int)) := h.cell rfl
  have hl := h.look_none hip he true
  simp only [if_true] at hl
  have hB := below_one w (.cells #[.int .u8 0, .int .u64 0, .int .i64 0, .int .i64 0, .slice none 0 0] 58)
  have k4 : (w.alloc (.cells #[.int .u8 0, .int .u64 0, .int .i64 0, .int .i64 0, .slice none 0 0] 58)).cell? ⟨w.heap.size, 4, none⟩ = some (.slice none 0 0) := by simp [go_sem]
  have hP1 := hP.below hB
  have e1 := (hB.cell (p := ⟨p, 1, none⟩) h.plt).trans h1
  have e2 := (hB.cell (p := ⟨p, 2, none⟩) h.plt).trans h2
  have g1 : decide (c.most ≤ L.length) = false := decide_eq_false hr
  have g2 : decide (0 < c.each) = true := decide_eq_true hz
  clear hr hz
  clear h hP h1 h2
  go_enter Try.func20, Try.ntmps20
  go_wp2_with fail
  generalize w.alloc (.cells #[.int .u8 0, .int .u64 0, .int .i64 0, .int .i64 0, .slice none 0 0] 58) = w1 at *
  have r1 := cell_regrown e1
  have r2 := cell_regrown e2
  have r4 := cell_regrown k4
  have qf := rgN hP1 (fun W h => full_below h)
  have qw := rgN hP1 (fun W h => waiting_any h)
  clear e1 e2 k4 hP1
  refine wp_region_quiet_below (by kernel_rfl) (by kernel_rfl) ?_
  repeat (go_big_quiet_step (fail))
  go_big_quiet_step (exact qf _ _)
  repeat (go_big_quiet_step (fail))
  go_big_quiet_step (exact qw _ _)
  repeat (go_big_quiet_step (fail))
  refine wpQuiet_nil ?_
  intro _ hw'
  obtain ⟨⟨dq, osq⟩, hw''⟩ := hw'
  subst hw''
  go_wp2
  go_ret
  exact ⟨rfl, hB.trans ((below_regrown _ _ _).mono hB.size)⟩

theorem room_any (h : PN No w p b c last L) {ip : Nat} (hip : ip < 12) :
    Calls Try.prog 20 #[.pointer (some ⟨p, 0, none⟩), .int .u32 (ip : Int)] w fun e w' => e = .returned (.bool (roomB c L ip)) ∧ Below w.heap.size w w' := by
  unfold roomB
  cases he : lookN ip L with
  | some x =>
    simp only
    by_cases hr : x.ws.length < c.each
    · rw [show decide (x.ws.length < c.each ∧ tot L < c.waits) = decide (tot L < c.waits) from decide_eq_decide.2 ⟨fun k => k.2, fun k => ⟨hr, k⟩⟩]
      exact room_s1 h hip he hr
    · rw [show decide (x.ws.length < c.each ∧ tot L < c.waits) = false from decide_eq_false (fun k => hr k.1)]
      exact room_s0 h hip he hr
  | none =>
    simp only
    by_cases hr : c.most ≤ L.length
    · rw [show decide (L.length < c.most ∧ 0 < c.each ∧ tot L < c.waits) = false from decide_eq_false (by omega)]
      exact room_n0 h hip he hr
    · by_cases hz : 0 < c.each
      · rw [show decide (L.length < c.most ∧ 0 < c.each ∧ tot L < c.waits) = decide (tot L < c.waits) from decide_eq_decide.2 (by omega)]
        exact room_n2 h hip he hr hz
      · rw [show decide (L.length < c.most ∧ 0 < c.each ∧ tot L < c.waits) = false from decide_eq_false (by omega)]
        exact room_n1 h hip he hr hz
end

end Go.Proofs.Ytjcigoojlmalnaa
