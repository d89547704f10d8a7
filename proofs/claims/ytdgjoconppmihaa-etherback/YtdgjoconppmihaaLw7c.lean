/- The walk of the law EtherBack, over the loaded program: true; no memory that was there has turned. No conditions. -/
import Derived.Test.YtdgjoconppmihaaBk7
namespace Go.Proofs.Ytdgjoconppmihaa
open Go.RowKit

set_option maxHeartbeats 1000000 in
theorem back_long1 (t f k : Nat) (d s : ByteArray) (w : World) (h : (131072 : Int) < (d.size : Int)) :
    Calls Try.prog 5 #[fr t f k d, .string s] w fun e w' => e = .returned (.bool true) ∧ Below w.heap.size w w' := by
  have H1 := hide (fun w => long_any t f k d w)
  rw [decide_eq_true h] at H1
  have H2 := hide alive_any
  have BEL := hide (below_one w (.cells #[.int .u64 (t : Int), .int .u64 (f : Int), .int .u16 (k : Int), .string d] 26))
  clear h
  go_enter Try.func5, Try.ntmps5
  go_wp2_with fail
  refine (unhide H1 _).mono ?_
  rintro e w1 ⟨rfl, b1⟩
  go_wp2_with fail
  refine (unhide H2 _).mono ?_
  rintro e w2 ⟨rfl, b2⟩
  go_wp2_with fail
  go_ret
  exact ⟨rfl, tr2 (tr2 (unhide BEL) b1) b2⟩

set_option maxHeartbeats 1000000 in
theorem back_long2 (t f k : Nat) (d s : ByteArray) (w : World) (h : (d.size : Int) ≤ 131072) (h2 : (131072 : Int) < (s.size : Int)) :
    Calls Try.prog 5 #[fr t f k d, .string s] w fun e w' => e = .returned (.bool true) ∧ Below w.heap.size w w' := by
  have H1 := hide (fun w => long_any t f k d w)
  rw [decide_eq_false (by omega)] at H1
  have H2 := hide alive_any
  have BEL := hide (below_one w (.cells #[.int .u64 (t : Int), .int .u64 (f : Int), .int .u16 (k : Int), .string d] 26))
  have g := decide_eq_true h2
  clear h h2
  go_enter Try.func5, Try.ntmps5
  go_wp2_with fail
  refine (unhide H1 _).mono ?_
  rintro e w1 ⟨rfl, b1⟩
  go_wp2_with fail
  refine (unhide H2 _).mono ?_
  rintro e w2 ⟨rfl, b2⟩
  go_wp2_with fail
  go_ret
  exact ⟨rfl, tr2 (tr2 (unhide BEL) b1) b2⟩

set_option maxRecDepth 20000 in
set_option maxHeartbeats 2000000 in
theorem back_nn (t f k : Nat) (d s : ByteArray) (w : World) (h : (d.size : Int) ≤ 131072) (h2 : (s.size : Int) ≤ 131072) (S : ByteArray) (E : Int) (T F K : Nat) (D2 : ByteArray) (E2 : Int)
    (H1 : Hid (∀ w, Calls Try.prog 10 #[fr t f k d] w fun x w' => x = .returned (.tuple #[.string S, .int .i64 E]) ∧ Below w.heap.size w w'))
    (hE : (E == 0) = false)
    (H3 : Hid (∀ w, Calls Try.prog 12 #[.string s] w fun x w' => x = .returned (.tuple #[fr T F K D2, .int .i64 E2]) ∧ Below w.heap.size w w'))
    (hE2 : (E2 == 0) = false) :
    Calls Try.prog 5 #[fr t f k d, .string s] w fun e w' => e = .returned (.bool true) ∧ Below w.heap.size w w' := by
  have H0 := hide (fun w => long_any t f k d w)
  rw [decide_eq_false (by omega)] at H0
  have H5 := hide alive_any
  have g := decide_eq_false (show ¬ (131072 : Int) < (s.size : Int) by omega)
  have K0 := hide (box_start w t f k d 26)
  have hs := toList_refl s
  clear h h2
  go_enter Try.func5, Try.ntmps5
  go_wp2_with fail
  refine (unhide H0 _).mono ?_
  rintro e w1 ⟨rfl, b1⟩
  have K1 := hide ((unhide K0).on b1)
  clear K0 b1 H0
  obtain ⟨c0, c1, c2, c3⟩ := box_cells (unhide K1)
  go_wp2_with fail
  refine (unhide H1 _).mono ?_
  rintro e w2 ⟨rfl, b2⟩
  have K2 := hide ((unhide K1).on b2)
  clear K1 b2 H1 c0 c1 c2 c3
  go_wp2_with fail
  refine (unhide H3 _).mono ?_
  rintro e w7 ⟨rfl, b7⟩
  have B7 := hide (tr2 (unhide K2).bel b7)
  have L7 := hide (tr2 (unhide B7) (below_one w7 (.cells #[.int .u64 (T : Int), .int .u64 (F : Int), .int .u16 (K : Int), .string D2] 26)))
  clear b7 H3
  go_wp2_with fail
  refine (unhide H5 _).mono ?_
  rintro e w9 ⟨rfl, b9⟩
  go_wp2_with fail
  go_ret
  exact ⟨rfl, tr2 (unhide L7) b9⟩

set_option maxRecDepth 20000 in
set_option maxHeartbeats 2000000 in
theorem back_ny (t f k : Nat) (d s : ByteArray) (w : World) (h : (d.size : Int) ≤ 131072) (h2 : (s.size : Int) ≤ 131072) (S : ByteArray) (E : Int) (T F K : Nat) (D2 : ByteArray)
    (H1 : Hid (∀ w, Calls Try.prog 10 #[fr t f k d] w fun x w' => x = .returned (.tuple #[.string S, .int .i64 E]) ∧ Below w.heap.size w w'))
    (hE : (E == 0) = false)
    (H3 : Hid (∀ w, Calls Try.prog 12 #[.string s] w fun x w' => x = .returned (.tuple #[fr T F K D2, .int .i64 0]) ∧ Below w.heap.size w w'))
    (H4 : Hid (∀ w, Calls Try.prog 10 #[fr T F K D2] w fun x w' => x = .returned (.tuple #[.string s, .int .i64 0]) ∧ Below w.heap.size w w')) :
    Calls Try.prog 5 #[fr t f k d, .string s] w fun e w' => e = .returned (.bool true) ∧ Below w.heap.size w w' := by
  have H0 := hide (fun w => long_any t f k d w)
  rw [decide_eq_false (by omega)] at H0
  have H5 := hide alive_any
  have g := decide_eq_false (show ¬ (131072 : Int) < (s.size : Int) by omega)
  have K0 := hide (box_start w t f k d 26)
  have hs := toList_refl s
  clear h h2
  go_enter Try.func5, Try.ntmps5
  go_wp2_with fail
  refine (unhide H0 _).mono ?_
  rintro e w1 ⟨rfl, b1⟩
  have K1 := hide ((unhide K0).on b1)
  clear K0 b1 H0
  obtain ⟨c0, c1, c2, c3⟩ := box_cells (unhide K1)
  go_wp2_with fail
  refine (unhide H1 _).mono ?_
  rintro e w2 ⟨rfl, b2⟩
  have K2 := hide ((unhide K1).on b2)
  clear K1 b2 H1 c0 c1 c2 c3
  go_wp2_with fail
  refine (unhide H3 _).mono ?_
  rintro e w7 ⟨rfl, b7⟩
  have B7 := hide (tr2 (unhide K2).bel b7)
  have L7 := hide (box_start w7 T F K D2 26)
  clear b7 H3
  obtain ⟨d0, d1, d2, d3⟩ := box_cells (unhide L7)
  go_wp2_with fail
  refine (unhide H4 _).mono ?_
  rintro e w8 ⟨rfl, b8⟩
  have B8 := hide (tr2 (unhide B7) ((unhide L7).on b8).bel)
  clear L7 b8 H4
  go_wp2_with fail
  refine (unhide H5 _).mono ?_
  rintro e w9 ⟨rfl, b9⟩
  go_wp2_with fail
  go_ret
  exact ⟨rfl, tr2 (unhide B8) b9⟩

set_option maxRecDepth 20000 in
set_option maxHeartbeats 2000000 in
theorem back_zn (t f k : Nat) (d s : ByteArray) (w : World) (h : (d.size : Int) ≤ 131072) (h2 : (s.size : Int) ≤ 131072) (S : ByteArray) (T F K : Nat) (D2 : ByteArray) (E2 : Int)
    (H1 : Hid (∀ w, Calls Try.prog 10 #[fr t f k d] w fun x w' => x = .returned (.tuple #[.string S, .int .i64 0]) ∧ Below w.heap.size w w'))
    (D Z : ByteArray) (n : Nat) (hn : n ≤ 60) (hZ : Z = zs n) (hz0 : n = 0)
    (H2 : Hid (∀ w, Calls Try.prog 12 #[.string S] w fun x w' => x = .returned (.tuple #[fr t f k D, .int .i64 0]) ∧ Below w.heap.size w w'))
    (hS : decide ((S.size : Int) < 60) = false) (hD : decide (D.size < d.size) = false)
    (s1 : ∀ w, (Instr.slice 9 (.string D) none (some (.int .i64 (d.size : Int))) none).run Try.prog w = .ok (.string d) w)
    (s2 : ∀ w, (Instr.slice 9 (.string D) (some (.int .i64 (d.size : Int))) none none).run Try.prog w = .ok (.string Z) w)
    (H3 : Hid (∀ w, Calls Try.prog 12 #[.string s] w fun x w' => x = .returned (.tuple #[fr T F K D2, .int .i64 E2]) ∧ Below w.heap.size w w'))
    (hE2 : (E2 == 0) = false) :
    Calls Try.prog 5 #[fr t f k d, .string s] w fun e w' => e = .returned (.bool true) ∧ Below w.heap.size w w' := by
  have H0 := hide (fun w => long_any t f k d w)
  rw [decide_eq_false (by omega)] at H0
  have H5 := hide alive_any
  have g := decide_eq_false (show ¬ (131072 : Int) < (s.size : Int) by omega)
  have K0 := hide (box_start w t f k d 26)
  have hs := toList_refl s
  have hd := toList_refl d
  have hZZ := toList_refl Z
  have hmk := fun w => mkz n (by omega) w
  have hcv := fun w => cvz n w
  rw [← hZ] at hcv
  have hzs : Z.size = n := by rw [hZ, zs_size]
  clear hZ
  subst hz0
  have hmk : ∀ w, (Instr.makeSlice 46 (.int .i64 0) (.int .i64 0)).run Try.prog w = .ok (.slice (some ⟨w.heap.size, 0, none⟩) 0 0) (w.alloc (zc 0)) := fun w => mkz 0 (by omega) w
  clear h h2
  go_enter Try.func5, Try.ntmps5
  go_wp2_with fail
  refine (unhide H0 _).mono ?_
  rintro e w1 ⟨rfl, b1⟩
  have K1 := hide ((unhide K0).on b1)
  clear K0 b1 H0
  obtain ⟨c0, c1, c2, c3⟩ := box_cells (unhide K1)
  go_wp2_with fail
  refine (unhide H1 _).mono ?_
  rintro e w2 ⟨rfl, b2⟩
  have K2 := hide ((unhide K1).on b2)
  clear K1 b2 H1 c0 c1 c2 c3
  go_wp2_with fail
  refine (unhide H2 _).mono ?_
  rintro e w3 ⟨rfl, b3⟩
  have K3 := hide (((unhide K2).on b3).on (below_one _ (.cells #[.int .u64 (t : Int), .int .u64 (f : Int), .int .u16 (k : Int), .string D] 26)))
  have L3 := hide (box_start w3 t f k D 26)
  clear K2 b3 H2
  go_wp2_with fail
  generalize w3.alloc (.cells #[.int .u64 (t : Int), .int .u64 (f : Int), .int .u16 (k : Int), .string D] 26) = w4 at *
  obtain ⟨c0, c1, c2, c3⟩ := box_cells (unhide K3)
  obtain ⟨d0, d1, d2, d3⟩ := box_cells (unhide L3)
  have e0 := cell_regrown c0
  have e1 := cell_regrown c1
  have e2 := cell_regrown c2
  have e3 := cell_regrown c3
  have e4 := cell_regrown d0
  have e5 := cell_regrown d1
  have e6 := cell_regrown d2
  have e7 := cell_regrown d3
  clear c0 c1 c2 c3 d0 d1 d2 d3
  try simp only [List.append]
  refine wp_region_quiet_below (by kernel_rfl) (by kernel_rfl) ?_
  repeat (quiet_step (fail))
  refine wpQuiet_nil ?_
  intro _ hw'
  obtain ⟨⟨dq, osq⟩, hw''⟩ := hw'
  subst hw''
  clear e0 e1 e2 e3 e4 e5 e6 e7
  have K5 := hide ((unhide K3).on (below_regrown w4 dq osq))
  have L5 := hide ((unhide L3).on (below_regrown w4 dq osq))
  clear K3 L3
  generalize Sort.grow (redrawn w4 dq) osq = w5 at *
  obtain ⟨c0, c1, c2, c3⟩ := box_cells (unhide K5)
  obtain ⟨d0, d1, d2, d3⟩ := box_cells (unhide L5)
  have B6 := hide (tr2 (unhide K5).bel (below_one w5 (zc 0)))
  clear K5 L5
  go_wp2_with fail
  clear c0 c1 c2 c3 d0 d1 d2 d3
  generalize w5.alloc (zc 0) = w6 at *
  refine (unhide H3 _).mono ?_
  rintro e w7 ⟨rfl, b7⟩
  have B7 := hide (tr2 (unhide B6) b7)
  have L7 := hide (tr2 (unhide B7) (below_one w7 (.cells #[.int .u64 (T : Int), .int .u64 (F : Int), .int .u16 (K : Int), .string D2] 26)))
  clear b7 H3
  go_wp2_with fail
  refine (unhide H5 _).mono ?_
  rintro e w9 ⟨rfl, b9⟩
  go_wp2_with fail
  go_ret
  exact ⟨rfl, tr2 (unhide L7) b9⟩

set_option maxRecDepth 20000 in
set_option maxHeartbeats 2000000 in
theorem back_zy (t f k : Nat) (d s : ByteArray) (w : World) (h : (d.size : Int) ≤ 131072) (h2 : (s.size : Int) ≤ 131072) (S : ByteArray) (T F K : Nat) (D2 : ByteArray)
    (H1 : Hid (∀ w, Calls Try.prog 10 #[fr t f k d] w fun x w' => x = .returned (.tuple #[.string S, .int .i64 0]) ∧ Below w.heap.size w w'))
    (D Z : ByteArray) (n : Nat) (hn : n ≤ 60) (hZ : Z = zs n) (hz0 : n = 0)
    (H2 : Hid (∀ w, Calls Try.prog 12 #[.string S] w fun x w' => x = .returned (.tuple #[fr t f k D, .int .i64 0]) ∧ Below w.heap.size w w'))
    (hS : decide ((S.size : Int) < 60) = false) (hD : decide (D.size < d.size) = false)
    (s1 : ∀ w, (Instr.slice 9 (.string D) none (some (.int .i64 (d.size : Int))) none).run Try.prog w = .ok (.string d) w)
    (s2 : ∀ w, (Instr.slice 9 (.string D) (some (.int .i64 (d.size : Int))) none none).run Try.prog w = .ok (.string Z) w)
    (H3 : Hid (∀ w, Calls Try.prog 12 #[.string s] w fun x w' => x = .returned (.tuple #[fr T F K D2, .int .i64 0]) ∧ Below w.heap.size w w'))
    (H4 : Hid (∀ w, Calls Try.prog 10 #[fr T F K D2] w fun x w' => x = .returned (.tuple #[.string s, .int .i64 0]) ∧ Below w.heap.size w w')) :
    Calls Try.prog 5 #[fr t f k d, .string s] w fun e w' => e = .returned (.bool true) ∧ Below w.heap.size w w' := by
  have H0 := hide (fun w => long_any t f k d w)
  rw [decide_eq_false (by omega)] at H0
  have H5 := hide alive_any
  have g := decide_eq_false (show ¬ (131072 : Int) < (s.size : Int) by omega)
  have K0 := hide (box_start w t f k d 26)
  have hs := toList_refl s
  have hd := toList_refl d
  have hZZ := toList_refl Z
  have hmk := fun w => mkz n (by omega) w
  have hcv := fun w => cvz n w
  rw [← hZ] at hcv
  have hzs : Z.size = n := by rw [hZ, zs_size]
  clear hZ
  subst hz0
  have hmk : ∀ w, (Instr.makeSlice 46 (.int .i64 0) (.int .i64 0)).run Try.prog w = .ok (.slice (some ⟨w.heap.size, 0, none⟩) 0 0) (w.alloc (zc 0)) := fun w => mkz 0 (by omega) w
  clear h h2
  go_enter Try.func5, Try.ntmps5
  go_wp2_with fail
  refine (unhide H0 _).mono ?_
  rintro e w1 ⟨rfl, b1⟩
  have K1 := hide ((unhide K0).on b1)
  clear K0 b1 H0
  obtain ⟨c0, c1, c2, c3⟩ := box_cells (unhide K1)
  go_wp2_with fail
  refine (unhide H1 _).mono ?_
  rintro e w2 ⟨rfl, b2⟩
  have K2 := hide ((unhide K1).on b2)
  clear K1 b2 H1 c0 c1 c2 c3
  go_wp2_with fail
  refine (unhide H2 _).mono ?_
  rintro e w3 ⟨rfl, b3⟩
  have K3 := hide (((unhide K2).on b3).on (below_one _ (.cells #[.int .u64 (t : Int), .int .u64 (f : Int), .int .u16 (k : Int), .string D] 26)))
  have L3 := hide (box_start w3 t f k D 26)
  clear K2 b3 H2
  go_wp2_with fail
  generalize w3.alloc (.cells #[.int .u64 (t : Int), .int .u64 (f : Int), .int .u16 (k : Int), .string D] 26) = w4 at *
  obtain ⟨c0, c1, c2, c3⟩ := box_cells (unhide K3)
  obtain ⟨d0, d1, d2, d3⟩ := box_cells (unhide L3)
  have e0 := cell_regrown c0
  have e1 := cell_regrown c1
  have e2 := cell_regrown c2
  have e3 := cell_regrown c3
  have e4 := cell_regrown d0
  have e5 := cell_regrown d1
  have e6 := cell_regrown d2
  have e7 := cell_regrown d3
  clear c0 c1 c2 c3 d0 d1 d2 d3
  try simp only [List.append]
  refine wp_region_quiet_below (by kernel_rfl) (by kernel_rfl) ?_
  repeat (quiet_step (fail))
  refine wpQuiet_nil ?_
  intro _ hw'
  obtain ⟨⟨dq, osq⟩, hw''⟩ := hw'
  subst hw''
  clear e0 e1 e2 e3 e4 e5 e6 e7
  have K5 := hide ((unhide K3).on (below_regrown w4 dq osq))
  have L5 := hide ((unhide L3).on (below_regrown w4 dq osq))
  clear K3 L3
  generalize Sort.grow (redrawn w4 dq) osq = w5 at *
  obtain ⟨c0, c1, c2, c3⟩ := box_cells (unhide K5)
  obtain ⟨d0, d1, d2, d3⟩ := box_cells (unhide L5)
  have B6 := hide (tr2 (unhide K5).bel (below_one w5 (zc 0)))
  clear K5 L5
  go_wp2_with fail
  clear c0 c1 c2 c3 d0 d1 d2 d3
  generalize w5.alloc (zc 0) = w6 at *
  refine (unhide H3 _).mono ?_
  rintro e w7 ⟨rfl, b7⟩
  have B7 := hide (tr2 (unhide B6) b7)
  have L7 := hide (box_start w7 T F K D2 26)
  clear b7 H3
  obtain ⟨d0, d1, d2, d3⟩ := box_cells (unhide L7)
  go_wp2_with fail
  refine (unhide H4 _).mono ?_
  rintro e w8 ⟨rfl, b8⟩
  have B8 := hide (tr2 (unhide B7) ((unhide L7).on b8).bel)
  clear L7 b8 H4
  go_wp2_with fail
  refine (unhide H5 _).mono ?_
  rintro e w9 ⟨rfl, b9⟩
  go_wp2_with fail
  go_ret
  exact ⟨rfl, tr2 (unhide B8) b9⟩

set_option maxRecDepth 20000 in
set_option maxHeartbeats 2000000 in
theorem back_pn (t f k : Nat) (d s : ByteArray) (w : World) (h : (d.size : Int) ≤ 131072) (h2 : (s.size : Int) ≤ 131072) (S : ByteArray) (T F K : Nat) (D2 : ByteArray) (E2 : Int)
    (H1 : Hid (∀ w, Calls Try.prog 10 #[fr t f k d] w fun x w' => x = .returned (.tuple #[.string S, .int .i64 0]) ∧ Below w.heap.size w w'))
    (D Z : ByteArray) (n : Nat) (hn : n ≤ 60) (hZ : Z = zs n) (hz0 : 0 < n ∧ S.size = 60)
    (H2 : Hid (∀ w, Calls Try.prog 12 #[.string S] w fun x w' => x = .returned (.tuple #[fr t f k D, .int .i64 0]) ∧ Below w.heap.size w w'))
    (hD : decide (D.size < d.size) = false)
    (s1 : ∀ w, (Instr.slice 9 (.string D) none (some (.int .i64 (d.size : Int))) none).run Try.prog w = .ok (.string d) w)
    (s2 : ∀ w, (Instr.slice 9 (.string D) (some (.int .i64 (d.size : Int))) none none).run Try.prog w = .ok (.string Z) w)
    (H3 : Hid (∀ w, Calls Try.prog 12 #[.string s] w fun x w' => x = .returned (.tuple #[fr T F K D2, .int .i64 E2]) ∧ Below w.heap.size w w'))
    (hE2 : (E2 == 0) = false) :
    Calls Try.prog 5 #[fr t f k d, .string s] w fun e w' => e = .returned (.bool true) ∧ Below w.heap.size w w' := by
  have H0 := hide (fun w => long_any t f k d w)
  rw [decide_eq_false (by omega)] at H0
  have H5 := hide alive_any
  have g := decide_eq_false (show ¬ (131072 : Int) < (s.size : Int) by omega)
  have K0 := hide (box_start w t f k d 26)
  have hs := toList_refl s
  have hd := toList_refl d
  have hZZ := toList_refl Z
  have hmk := fun w => mkz n (by omega) w
  have hcv := fun w => cvz n w
  rw [← hZ] at hcv
  have hzs : Z.size = n := by rw [hZ, zs_size]
  clear hZ
  have hnn : decide (0 < n) = true := decide_eq_true hz0.1
  have h60 := hz0.2
  clear hz0
  clear h h2
  go_enter Try.func5, Try.ntmps5
  go_wp2_with fail
  refine (unhide H0 _).mono ?_
  rintro e w1 ⟨rfl, b1⟩
  have K1 := hide ((unhide K0).on b1)
  clear K0 b1 H0
  obtain ⟨c0, c1, c2, c3⟩ := box_cells (unhide K1)
  go_wp2_with fail
  refine (unhide H1 _).mono ?_
  rintro e w2 ⟨rfl, b2⟩
  have K2 := hide ((unhide K1).on b2)
  clear K1 b2 H1 c0 c1 c2 c3
  go_wp2_with fail
  refine (unhide H2 _).mono ?_
  rintro e w3 ⟨rfl, b3⟩
  have K3 := hide (((unhide K2).on b3).on (below_one _ (.cells #[.int .u64 (t : Int), .int .u64 (f : Int), .int .u16 (k : Int), .string D] 26)))
  have L3 := hide (box_start w3 t f k D 26)
  clear K2 b3 H2
  go_wp2_with fail
  generalize w3.alloc (.cells #[.int .u64 (t : Int), .int .u64 (f : Int), .int .u16 (k : Int), .string D] 26) = w4 at *
  obtain ⟨c0, c1, c2, c3⟩ := box_cells (unhide K3)
  obtain ⟨d0, d1, d2, d3⟩ := box_cells (unhide L3)
  have e0 := cell_regrown c0
  have e1 := cell_regrown c1
  have e2 := cell_regrown c2
  have e3 := cell_regrown c3
  have e4 := cell_regrown d0
  have e5 := cell_regrown d1
  have e6 := cell_regrown d2
  have e7 := cell_regrown d3
  clear c0 c1 c2 c3 d0 d1 d2 d3
  try simp only [List.append]
  refine wp_region_quiet_below (by kernel_rfl) (by kernel_rfl) ?_
  repeat (quiet_step (fail))
  refine wpQuiet_nil ?_
  intro _ hw'
  obtain ⟨⟨dq, osq⟩, hw''⟩ := hw'
  subst hw''
  clear e0 e1 e2 e3 e4 e5 e6 e7
  have K5 := hide ((unhide K3).on (below_regrown w4 dq osq))
  have L5 := hide ((unhide L3).on (below_regrown w4 dq osq))
  clear K3 L3
  generalize Sort.grow (redrawn w4 dq) osq = w5 at *
  obtain ⟨c0, c1, c2, c3⟩ := box_cells (unhide K5)
  obtain ⟨d0, d1, d2, d3⟩ := box_cells (unhide L5)
  have B6 := hide (tr2 (unhide K5).bel (below_one w5 (zc n)))
  clear K5 L5
  go_wp2_with fail
  clear c0 c1 c2 c3 d0 d1 d2 d3
  generalize w5.alloc (zc n) = w6 at *
  refine (unhide H3 _).mono ?_
  rintro e w7 ⟨rfl, b7⟩
  have B7 := hide (tr2 (unhide B6) b7)
  have L7 := hide (tr2 (unhide B7) (below_one w7 (.cells #[.int .u64 (T : Int), .int .u64 (F : Int), .int .u16 (K : Int), .string D2] 26)))
  clear b7 H3
  go_wp2_with fail
  refine (unhide H5 _).mono ?_
  rintro e w9 ⟨rfl, b9⟩
  go_wp2_with fail
  go_ret
  exact ⟨rfl, tr2 (unhide L7) b9⟩

set_option maxRecDepth 20000 in
set_option maxHeartbeats 2000000 in
theorem back_py (t f k : Nat) (d s : ByteArray) (w : World) (h : (d.size : Int) ≤ 131072) (h2 : (s.size : Int) ≤ 131072) (S : ByteArray) (T F K : Nat) (D2 : ByteArray)
    (H1 : Hid (∀ w, Calls Try.prog 10 #[fr t f k d] w fun x w' => x = .returned (.tuple #[.string S, .int .i64 0]) ∧ Below w.heap.size w w'))
    (D Z : ByteArray) (n : Nat) (hn : n ≤ 60) (hZ : Z = zs n) (hz0 : 0 < n ∧ S.size = 60)
    (H2 : Hid (∀ w, Calls Try.prog 12 #[.string S] w fun x w' => x = .returned (.tuple #[fr t f k D, .int .i64 0]) ∧ Below w.heap.size w w'))
    (hD : decide (D.size < d.size) = false)
    (s1 : ∀ w, (Instr.slice 9 (.string D) none (some (.int .i64 (d.size : Int))) none).run Try.prog w = .ok (.string d) w)
    (s2 : ∀ w, (Instr.slice 9 (.string D) (some (.int .i64 (d.size : Int))) none none).run Try.prog w = .ok (.string Z) w)
    (H3 : Hid (∀ w, Calls Try.prog 12 #[.string s] w fun x w' => x = .returned (.tuple #[fr T F K D2, .int .i64 0]) ∧ Below w.heap.size w w'))
    (H4 : Hid (∀ w, Calls Try.prog 10 #[fr T F K D2] w fun x w' => x = .returned (.tuple #[.string s, .int .i64 0]) ∧ Below w.heap.size w w')) :
    Calls Try.prog 5 #[fr t f k d, .string s] w fun e w' => e = .returned (.bool true) ∧ Below w.heap.size w w' := by
  have H0 := hide (fun w => long_any t f k d w)
  rw [decide_eq_false (by omega)] at H0
  have H5 := hide alive_any
  have g := decide_eq_false (show ¬ (131072 : Int) < (s.size : Int) by omega)
  have K0 := hide (box_start w t f k d 26)
  have hs := toList_refl s
  have hd := toList_refl d
  have hZZ := toList_refl Z
  have hmk := fun w => mkz n (by omega) w
  have hcv := fun w => cvz n w
  rw [← hZ] at hcv
  have hzs : Z.size = n := by rw [hZ, zs_size]
  clear hZ
  have hnn : decide (0 < n) = true := decide_eq_true hz0.1
  have h60 := hz0.2
  clear hz0
  clear h h2
  go_enter Try.func5, Try.ntmps5
  go_wp2_with fail
  refine (unhide H0 _).mono ?_
  rintro e w1 ⟨rfl, b1⟩
  have K1 := hide ((unhide K0).on b1)
  clear K0 b1 H0
  obtain ⟨c0, c1, c2, c3⟩ := box_cells (unhide K1)
  go_wp2_with fail
  refine (unhide H1 _).mono ?_
  rintro e w2 ⟨rfl, b2⟩
  have K2 := hide ((unhide K1).on b2)
  clear K1 b2 H1 c0 c1 c2 c3
  go_wp2_with fail
  refine (unhide H2 _).mono ?_
  rintro e w3 ⟨rfl, b3⟩
  have K3 := hide (((unhide K2).on b3).on (below_one _ (.cells #[.int .u64 (t : Int), .int .u64 (f : Int), .int .u16 (k : Int), .string D] 26)))
  have L3 := hide (box_start w3 t f k D 26)
  clear K2 b3 H2
  go_wp2_with fail
  generalize w3.alloc (.cells #[.int .u64 (t : Int), .int .u64 (f : Int), .int .u16 (k : Int), .string D] 26) = w4 at *
  obtain ⟨c0, c1, c2, c3⟩ := box_cells (unhide K3)
  obtain ⟨d0, d1, d2, d3⟩ := box_cells (unhide L3)
  have e0 := cell_regrown c0
  have e1 := cell_regrown c1
  have e2 := cell_regrown c2
  have e3 := cell_regrown c3
  have e4 := cell_regrown d0
  have e5 := cell_regrown d1
  have e6 := cell_regrown d2
  have e7 := cell_regrown d3
  clear c0 c1 c2 c3 d0 d1 d2 d3
  try simp only [List.append]
  refine wp_region_quiet_below (by kernel_rfl) (by kernel_rfl) ?_
  repeat (quiet_step (fail))
  refine wpQuiet_nil ?_
  intro _ hw'
  obtain ⟨⟨dq, osq⟩, hw''⟩ := hw'
  subst hw''
  clear e0 e1 e2 e3 e4 e5 e6 e7
  have K5 := hide ((unhide K3).on (below_regrown w4 dq osq))
  have L5 := hide ((unhide L3).on (below_regrown w4 dq osq))
  clear K3 L3
  generalize Sort.grow (redrawn w4 dq) osq = w5 at *
  obtain ⟨c0, c1, c2, c3⟩ := box_cells (unhide K5)
  obtain ⟨d0, d1, d2, d3⟩ := box_cells (unhide L5)
  have B6 := hide (tr2 (unhide K5).bel (below_one w5 (zc n)))
  clear K5 L5
  go_wp2_with fail
  clear c0 c1 c2 c3 d0 d1 d2 d3
  generalize w5.alloc (zc n) = w6 at *
  refine (unhide H3 _).mono ?_
  rintro e w7 ⟨rfl, b7⟩
  have B7 := hide (tr2 (unhide B6) b7)
  have L7 := hide (box_start w7 T F K D2 26)
  clear b7 H3
  obtain ⟨d0, d1, d2, d3⟩ := box_cells (unhide L7)
  go_wp2_with fail
  refine (unhide H4 _).mono ?_
  rintro e w8 ⟨rfl, b8⟩
  have B8 := hide (tr2 (unhide B7) ((unhide L7).on b8).bel)
  clear L7 b8 H4
  go_wp2_with fail
  refine (unhide H5 _).mono ?_
  rintro e w9 ⟨rfl, b9⟩
  go_wp2_with fail
  go_ret
  exact ⟨rfl, tr2 (unhide B8) b9⟩

theorem slice_to (D d : ByteArray) (h : d.size ≤ D.size) (he : D.extract 0 d.size = d) (w : World) : (Instr.slice 9 (.string D) none (some (.int .i64 (d.size : Int))) none).run Try.prog w = .ok (.string d) w := by
  have hu := run_underlying (P := Try.prog) Try.underlying9
  simp [Instr.slice, hu, go_sem, h, he]
theorem slice_from (D d Z : ByteArray) (h : d.size ≤ D.size) (he : D.extract d.size D.size = Z) (w : World) : (Instr.slice 9 (.string D) (some (.int .i64 (d.size : Int))) none none).run Try.prog w = .ok (.string Z) w := by
  have hu := run_underlying (P := Try.prog) Try.underlying9
  simp [Instr.slice, hu, go_sem, h, he]

theorem etherBack_walk (v : Value) (t f k : Nat) (d s : ByteArray) (w : World) (hv : IsFrame v t f k d) (_ : s.size ≤ maxLen) :
    Calls Try.prog 5 #[v, .string s] w fun e w' => e = .returned (.bool true) ∧ Below w.heap.size w w' := by
  obtain ⟨rfl, ht, hf, hk, hd⟩ := hv
  by_cases h1 : (131072 : Int) < (d.size : Int)
  · exact back_long1 t f k d s w h1
  · by_cases h2 : (131072 : Int) < (s.size : Int)
    · exact back_long2 t f k d s w (by omega) h2
    · have hb1 : (d.size : Int) ≤ 131072 := by omega
      have hb2 : (s.size : Int) ≤ 131072 := by omega
      obtain ⟨S, E, he⟩ := enc_ex t f k d
      obtain ⟨T, F, K, D2, E2, hd2⟩ := dec_ex s
      have H1 := fun w => encode_any t f k d w ht hf hk (by omega) he
      have H3 := fun w => decode_any s w hd2
      have dn : (E2 == 0) = false ∨ (E2 = 0 ∧ ∀ w, Calls Try.prog 10 #[fr T F K D2] w fun x w' => x = .returned (.tuple #[.string s, .int .i64 0]) ∧ Below w.heap.size w w') := by
        rcases hd2 with ⟨_, _, _, _, _, rfl⟩ | ⟨_, _, _, _, _, rfl⟩ | ⟨_, _, _, _, _, rfl⟩ | ⟨⟨g1, g2, g3⟩, rfl, rfl, rfl, rfl, rfl⟩
        · exact .inl rfl
        · exact .inl rfl
        · exact .inl rfl
        · refine .inr ⟨rfl, fun w => ?_⟩
          have b0 := fld_lt s 0 6
          have b1 := fld_lt s 6 6
          have b2 := fld_lt s 12 2
          simp only [Nat.reducePow] at b0 b1 b2
          have hz : (s.extract 14 s.size).size = s.size - 14 := by rw [ByteArray.size_extract]; omega
          have hh := encode_any (num (fld s 0 6)) (num (fld s 6 6)) (num (fld s 12 2)) (s.extract 14 s.size) w (by omega) (by omega) (by omega) (by omega) (.inr (.inr ⟨⟨b0, b1, g3, by omega⟩, rfl, rfl⟩))
          rw [dec_enc s g1] at hh
          exact hh
      rcases he with ⟨_, rfl, rfl⟩ | ⟨_, rfl, rfl⟩ | ⟨⟨g1, g2, g3, g4⟩, rfl, rfl⟩
      · rcases dn with he2 | ⟨rfl, H4⟩
        · exact back_nn t f k d s w hb1 hb2 _ 2 T F K D2 E2 H1 rfl H3 he2
        · exact back_ny t f k d s w hb1 hb2 _ 2 T F K D2 H1 rfl H3 H4
      · rcases dn with he2 | ⟨rfl, H4⟩
        · exact back_nn t f k d s w hb1 hb2 _ 4 T F K D2 E2 H1 rfl H3 he2
        · exact back_ny t f k d s w hb1 hb2 _ 4 T F K D2 H1 rfl H3 H4
      · have H2 := fun w => decode_any (encB t f k d) w (enc_dec g1 g2 hk g3 g4)
        have hz := enc_size t f k d
        have hDs : (d ++ zs (60 - (14 + d.size))).size = d.size + (60 - (14 + d.size)) := by rw [ByteArray.size_append, zs_size]
        have hD : decide ((d ++ zs (60 - (14 + d.size))).size < d.size) = false := decide_eq_false (by omega)
        have s1 := slice_to (d ++ zs (60 - (14 + d.size))) d (by omega) (pre_cat d _)
        have s2 := slice_from (d ++ zs (60 - (14 + d.size))) d (zs (60 - (14 + d.size))) (by omega) (suf_cat d _)
        by_cases h0 : 60 - (14 + d.size) = 0
        · have hS : decide (((encB t f k d).size : Int) < 60) = false := decide_eq_false (by omega)
          rcases dn with he2 | ⟨rfl, H4⟩
          · exact back_zn t f k d s w hb1 hb2 _ T F K D2 E2 H1 _ _ _ (by omega) rfl h0 H2 hS hD s1 s2 H3 he2
          · exact back_zy t f k d s w hb1 hb2 _ T F K D2 H1 _ _ _ (by omega) rfl h0 H2 hS hD s1 s2 H3 H4
        · rcases dn with he2 | ⟨rfl, H4⟩
          · exact back_pn t f k d s w hb1 hb2 _ T F K D2 E2 H1 _ _ _ (by omega) rfl ⟨by omega, by omega⟩ H2 hD s1 s2 H3 he2
          · exact back_py t f k d s w hb1 hb2 _ T F K D2 H1 _ _ _ (by omega) rfl ⟨by omega, by omega⟩ H2 hD s1 s2 H3 H4

end Go.Proofs.Ytdgjoconppmihaa
