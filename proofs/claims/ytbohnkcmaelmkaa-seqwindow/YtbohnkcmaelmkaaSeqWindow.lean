/- The walk of the statement SeqWindow, over the loaded program, out of the contracts. No conditions but the numbers' bounds. -/
import Derived.Test.YtbohnkcmaelmkaaAlive03
import Derived.Test.YtbohnkcmaelmkaaSeqAt
namespace Go.Proofs.Ytbohnkcmaelmkaa
open Go.RowKit

set_option maxRecDepth 100000 in
set_option maxHeartbeats 4000000 in
theorem window_none (f x : Nat) (hf : f < 4294967296) (hx : x < 4294967296) (w : World) :
    Calls Try.prog 5 #[.int .u32 (f : Int), .int .u32 0, .int .u32 (x : Int)] w fun e w' => e = .returned (.bool true) ∧ Below w.heap.size w w' := by
  have H1 := hide (fun w => in_at (f : Int) (f : Int) 0 0 w (by omega) (by omega) (by omega) (by omega) (by omega) (by omega) (by omega) (by omega) (by omega))
  rw [decide_eq_false (by omega)] at H1
  have H4 := hide (fun w => in_at (((f : Int) - 1) % 4294967296) (f : Int) 0 4294967295 w (by omega) (by omega) (by omega) (by omega) (by omega) (by omega) (by omega) (by omega) (by omega))
  rw [decide_eq_false (by omega)] at H4
  have H5 := hide (fun w => in_at (x : Int) (f : Int) 0 (((x : Int) - (f : Int)) % 4294967296) w (by omega) (by omega) (by omega) (by omega) (by omega) (by omega) (by omega) (by omega) (by omega))
  rw [decide_eq_false (by omega)] at H5
  have g1 : decide ((((x : Int) - (f : Int)) % 4294967296) < 0) = false := decide_eq_false (by omega)
  have HA := hide alive_any
  go_enter Try.func5, Try.ntmps5
  go_wp2_with fail
  refine (unhide H1 _).mono ?_
  rintro e w0 ⟨rfl, hb0⟩
  go_wp2_with fail
  refine (unhide H1 _).mono ?_
  rintro e w1 ⟨rfl, hb1⟩
  go_wp2_with fail
  refine (unhide H4 _).mono ?_
  rintro e w2 ⟨rfl, hb2⟩
  go_wp2_with fail
  refine (unhide H5 _).mono ?_
  rintro e w3 ⟨rfl, hb3⟩
  go_wp2_with fail
  refine (unhide H5 _).mono ?_
  rintro e w4 ⟨rfl, hb4⟩
  go_wp2_with fail
  refine (unhide HA _).mono ?_
  rintro e w5 ⟨rfl, hb5⟩
  go_wp2
  go_ret
  exact ⟨rfl, tr2 hb0 (tr2 hb1 (tr2 hb2 (tr2 hb3 (tr2 hb4 hb5))))⟩

set_option maxRecDepth 100000 in
set_option maxHeartbeats 4000000 in
theorem window_at (f n : Nat) (hf : f < 4294967296) (hn : n < 4294967296) (hp : 0 < n) (hl : n < 4294967295) (w : World) :
    Calls Try.prog 5 #[.int .u32 (f : Int), .int .u32 (n : Int), .int .u32 (f : Int)] w fun e w' => e = .returned (.bool true) ∧ Below w.heap.size w w' := by
  have H1 := hide (fun w => in_at (f : Int) (f : Int) (n : Int) 0 w (by omega) (by omega) (by omega) (by omega) (by omega) (by omega) (by omega) (by omega) (by omega))
  rw [decide_eq_true (by omega)] at H1
  have H2 := hide (fun w => in_at (((f : Int) + (n : Int) - 1) % 4294967296) (f : Int) (n : Int) ((n : Int) - 1) w (by omega) (by omega) (by omega) (by omega) (by omega) (by omega) (by omega) (by omega) (by omega))
  rw [decide_eq_true (by omega)] at H2
  have H3 := hide (fun w => in_at (((f : Int) + (n : Int)) % 4294967296) (f : Int) (n : Int) (n : Int) w (by omega) (by omega) (by omega) (by omega) (by omega) (by omega) (by omega) (by omega) (by omega))
  rw [decide_eq_false (by omega)] at H3
  have H4 := hide (fun w => in_at (((f : Int) - 1) % 4294967296) (f : Int) (n : Int) 4294967295 w (by omega) (by omega) (by omega) (by omega) (by omega) (by omega) (by omega) (by omega) (by omega))
  rw [decide_eq_false (by omega)] at H4
  have g0 : ((n : Int) == 0) = false := beq_false_of_ne (by omega)
  have H6 := hide (fun w => in_at (f : Int) (f : Int) ((n : Int) + 1) 0 w (by omega) (by omega) (by omega) (by omega) (by omega) (by omega) (by omega) (by omega) (by omega))
  rw [decide_eq_true (by omega)] at H6
  have H7 := hide (fun w => in_at (f : Int) (((f : Int) + 1) % 4294967296) ((n : Int) - 1) 4294967295 w (by omega) (by omega) (by omega) (by omega) (by omega) (by omega) (by omega) (by omega) (by omega))
  rw [decide_eq_false (by omega)] at H7
  have HA := hide alive_any
  go_enter Try.func5, Try.ntmps5
  go_wp2_with fail
  refine (unhide H1 _).mono ?_
  rintro e w0 ⟨rfl, hb0⟩
  go_wp2_with fail
  refine (unhide H2 _).mono ?_
  rintro e w1 ⟨rfl, hb1⟩
  go_wp2_with fail
  refine (unhide H3 _).mono ?_
  rintro e w2 ⟨rfl, hb2⟩
  go_wp2_with fail
  refine (unhide H4 _).mono ?_
  rintro e w3 ⟨rfl, hb3⟩
  go_wp2_with fail
  refine (unhide H1 _).mono ?_
  rintro e w4 ⟨rfl, hb4⟩
  go_wp2_with fail
  refine (unhide H6 _).mono ?_
  rintro e w5 ⟨rfl, hb5⟩
  go_wp2_with fail
  refine (unhide H7 _).mono ?_
  rintro e w6 ⟨rfl, hb6⟩
  go_wp2_with fail
  refine (unhide H1 _).mono ?_
  rintro e w7 ⟨rfl, hb7⟩
  go_wp2_with fail
  refine (unhide HA _).mono ?_
  rintro e w8 ⟨rfl, hb8⟩
  go_wp2
  go_ret
  exact ⟨rfl, tr2 hb0 (tr2 hb1 (tr2 hb2 (tr2 hb3 (tr2 hb4 (tr2 hb5 (tr2 hb6 (tr2 hb7 hb8)))))))⟩

set_option maxRecDepth 100000 in
set_option maxHeartbeats 4000000 in
theorem window_in (f n x : Nat) (hf : f < 4294967296) (hn : n < 4294967296) (hx : x < 4294967296) (hp : 0 < n) (hl : n < 4294967295) (hne : x ≠ f) (hd : ((x : Int) - (f : Int)) % 4294967296 < (n : Int)) (w : World) :
    Calls Try.prog 5 #[.int .u32 (f : Int), .int .u32 (n : Int), .int .u32 (x : Int)] w fun e w' => e = .returned (.bool true) ∧ Below w.heap.size w w' := by
  have H1 := hide (fun w => in_at (f : Int) (f : Int) (n : Int) 0 w (by omega) (by omega) (by omega) (by omega) (by omega) (by omega) (by omega) (by omega) (by omega))
  rw [decide_eq_true (by omega)] at H1
  have H2 := hide (fun w => in_at (((f : Int) + (n : Int) - 1) % 4294967296) (f : Int) (n : Int) ((n : Int) - 1) w (by omega) (by omega) (by omega) (by omega) (by omega) (by omega) (by omega) (by omega) (by omega))
  rw [decide_eq_true (by omega)] at H2
  have H3 := hide (fun w => in_at (((f : Int) + (n : Int)) % 4294967296) (f : Int) (n : Int) (n : Int) w (by omega) (by omega) (by omega) (by omega) (by omega) (by omega) (by omega) (by omega) (by omega))
  rw [decide_eq_false (by omega)] at H3
  have H4 := hide (fun w => in_at (((f : Int) - 1) % 4294967296) (f : Int) (n : Int) 4294967295 w (by omega) (by omega) (by omega) (by omega) (by omega) (by omega) (by omega) (by omega) (by omega))
  rw [decide_eq_false (by omega)] at H4
  have g0 : ((n : Int) == 0) = false := beq_false_of_ne (by omega)
  have H5 := hide (fun w => in_at (x : Int) (f : Int) (n : Int) (((x : Int) - (f : Int)) % 4294967296) w (by omega) (by omega) (by omega) (by omega) (by omega) (by omega) (by omega) (by omega) (by omega))
  rw [decide_eq_true (by omega)] at H5
  have H6 := hide (fun w => in_at (x : Int) (f : Int) ((n : Int) + 1) (((x : Int) - (f : Int)) % 4294967296) w (by omega) (by omega) (by omega) (by omega) (by omega) (by omega) (by omega) (by omega) (by omega))
  rw [decide_eq_true (by omega)] at H6
  have H7 := hide (fun w => in_at (x : Int) (((f : Int) + 1) % 4294967296) ((n : Int) - 1) (((x : Int) - (f : Int)) % 4294967296 - 1) w (by omega) (by omega) (by omega) (by omega) (by omega) (by omega) (by omega) (by omega) (by omega))
  rw [decide_eq_true (by omega)] at H7
  have g1 : decide (((x : Int) - (f : Int)) % 4294967296 < (n : Int)) = true := decide_eq_true (by omega)
  have g2 : ((x : Int) == (f : Int)) = false := beq_false_of_ne (by omega)
  have HA := hide alive_any
  go_enter Try.func5, Try.ntmps5
  go_wp2_with fail
  refine (unhide H1 _).mono ?_
  rintro e w0 ⟨rfl, hb0⟩
  go_wp2_with fail
  refine (unhide H2 _).mono ?_
  rintro e w1 ⟨rfl, hb1⟩
  go_wp2_with fail
  refine (unhide H3 _).mono ?_
  rintro e w2 ⟨rfl, hb2⟩
  go_wp2_with fail
  refine (unhide H4 _).mono ?_
  rintro e w3 ⟨rfl, hb3⟩
  go_wp2_with fail
  refine (unhide H5 _).mono ?_
  rintro e w4 ⟨rfl, hb4⟩
  go_wp2_with fail
  refine (unhide H6 _).mono ?_
  rintro e w5 ⟨rfl, hb5⟩
  go_wp2_with fail
  refine (unhide H7 _).mono ?_
  rintro e w6 ⟨rfl, hb6⟩
  go_wp2_with fail
  refine (unhide H5 _).mono ?_
  rintro e w7 ⟨rfl, hb7⟩
  go_wp2_with fail
  refine (unhide H7 _).mono ?_
  rintro e w8 ⟨rfl, hb8⟩
  go_wp2_with fail
  refine (unhide HA _).mono ?_
  rintro e w9 ⟨rfl, hb9⟩
  go_wp2
  go_ret
  exact ⟨rfl, tr2 hb0 (tr2 hb1 (tr2 hb2 (tr2 hb3 (tr2 hb4 (tr2 hb5 (tr2 hb6 (tr2 hb7 (tr2 hb8 hb9))))))))⟩

set_option maxRecDepth 100000 in
set_option maxHeartbeats 4000000 in
theorem window_out (f n x : Nat) (hf : f < 4294967296) (hn : n < 4294967296) (hx : x < 4294967296) (hp : 0 < n) (hl : n < 4294967295) (_hne : x ≠ f) (hd : ¬ ((x : Int) - (f : Int)) % 4294967296 < (n : Int)) (w : World) :
    Calls Try.prog 5 #[.int .u32 (f : Int), .int .u32 (n : Int), .int .u32 (x : Int)] w fun e w' => e = .returned (.bool true) ∧ Below w.heap.size w w' := by
  have H1 := hide (fun w => in_at (f : Int) (f : Int) (n : Int) 0 w (by omega) (by omega) (by omega) (by omega) (by omega) (by omega) (by omega) (by omega) (by omega))
  rw [decide_eq_true (by omega)] at H1
  have H2 := hide (fun w => in_at (((f : Int) + (n : Int) - 1) % 4294967296) (f : Int) (n : Int) ((n : Int) - 1) w (by omega) (by omega) (by omega) (by omega) (by omega) (by omega) (by omega) (by omega) (by omega))
  rw [decide_eq_true (by omega)] at H2
  have H3 := hide (fun w => in_at (((f : Int) + (n : Int)) % 4294967296) (f : Int) (n : Int) (n : Int) w (by omega) (by omega) (by omega) (by omega) (by omega) (by omega) (by omega) (by omega) (by omega))
  rw [decide_eq_false (by omega)] at H3
  have H4 := hide (fun w => in_at (((f : Int) - 1) % 4294967296) (f : Int) (n : Int) 4294967295 w (by omega) (by omega) (by omega) (by omega) (by omega) (by omega) (by omega) (by omega) (by omega))
  rw [decide_eq_false (by omega)] at H4
  have g0 : ((n : Int) == 0) = false := beq_false_of_ne (by omega)
  have H5 := hide (fun w => in_at (x : Int) (f : Int) (n : Int) (((x : Int) - (f : Int)) % 4294967296) w (by omega) (by omega) (by omega) (by omega) (by omega) (by omega) (by omega) (by omega) (by omega))
  rw [decide_eq_false (by omega)] at H5
  have H7 := hide (fun w => in_at (x : Int) (((f : Int) + 1) % 4294967296) ((n : Int) - 1) (((x : Int) - (f : Int)) % 4294967296 - 1) w (by omega) (by omega) (by omega) (by omega) (by omega) (by omega) (by omega) (by omega) (by omega))
  rw [decide_eq_false (by omega)] at H7
  have g1 : decide (((x : Int) - (f : Int)) % 4294967296 < (n : Int)) = false := decide_eq_false (by omega)
  have g2 : ((x : Int) == (f : Int)) = false := beq_false_of_ne (by omega)
  have HA := hide alive_any
  go_enter Try.func5, Try.ntmps5
  go_wp2_with fail
  refine (unhide H1 _).mono ?_
  rintro e w0 ⟨rfl, hb0⟩
  go_wp2_with fail
  refine (unhide H2 _).mono ?_
  rintro e w1 ⟨rfl, hb1⟩
  go_wp2_with fail
  refine (unhide H3 _).mono ?_
  rintro e w2 ⟨rfl, hb2⟩
  go_wp2_with fail
  refine (unhide H4 _).mono ?_
  rintro e w3 ⟨rfl, hb3⟩
  go_wp2_with fail
  refine (unhide H5 _).mono ?_
  rintro e w4 ⟨rfl, hb4⟩
  go_wp2_with fail
  refine (unhide H7 _).mono ?_
  rintro e w5 ⟨rfl, hb5⟩
  go_wp2_with fail
  refine (unhide H5 _).mono ?_
  rintro e w6 ⟨rfl, hb6⟩
  go_wp2_with fail
  refine (unhide H7 _).mono ?_
  rintro e w7 ⟨rfl, hb7⟩
  go_wp2_with fail
  refine (unhide HA _).mono ?_
  rintro e w8 ⟨rfl, hb8⟩
  go_wp2
  go_ret
  exact ⟨rfl, tr2 hb0 (tr2 hb1 (tr2 hb2 (tr2 hb3 (tr2 hb4 (tr2 hb5 (tr2 hb6 (tr2 hb7 hb8)))))))⟩

set_option maxRecDepth 100000 in
set_option maxHeartbeats 4000000 in
theorem window_at_last (f : Nat) (hf : f < 4294967296) (w : World) :
    Calls Try.prog 5 #[.int .u32 (f : Int), .int .u32 4294967295, .int .u32 (f : Int)] w fun e w' => e = .returned (.bool true) ∧ Below w.heap.size w w' := by
  have H1 := hide (fun w => in_at (f : Int) (f : Int) 4294967295 0 w (by omega) (by omega) (by omega) (by omega) (by omega) (by omega) (by omega) (by omega) (by omega))
  rw [decide_eq_true (by omega)] at H1
  have H2 := hide (fun w => in_at (((f : Int) + 4294967295 - 1) % 4294967296) (f : Int) 4294967295 4294967294 w (by omega) (by omega) (by omega) (by omega) (by omega) (by omega) (by omega) (by omega) (by omega))
  rw [decide_eq_true (by omega)] at H2
  have H3 := hide (fun w => in_at (((f : Int) + 4294967295) % 4294967296) (f : Int) 4294967295 4294967295 w (by omega) (by omega) (by omega) (by omega) (by omega) (by omega) (by omega) (by omega) (by omega))
  rw [decide_eq_false (by omega)] at H3
  have H4 := hide (fun w => in_at (((f : Int) - 1) % 4294967296) (f : Int) 4294967295 4294967295 w (by omega) (by omega) (by omega) (by omega) (by omega) (by omega) (by omega) (by omega) (by omega))
  rw [decide_eq_false (by omega)] at H4
  have H6 := hide (fun w => in_at (f : Int) (f : Int) 0 0 w (by omega) (by omega) (by omega) (by omega) (by omega) (by omega) (by omega) (by omega) (by omega))
  rw [decide_eq_false (by omega)] at H6
  have H7 := hide (fun w => in_at (f : Int) (((f : Int) + 1) % 4294967296) 4294967294 4294967295 w (by omega) (by omega) (by omega) (by omega) (by omega) (by omega) (by omega) (by omega) (by omega))
  rw [decide_eq_false (by omega)] at H7
  have HA := hide alive_any
  go_enter Try.func5, Try.ntmps5
  go_wp2_with fail
  refine (unhide H1 _).mono ?_
  rintro e w0 ⟨rfl, hb0⟩
  go_wp2_with fail
  refine (unhide H2 _).mono ?_
  rintro e w1 ⟨rfl, hb1⟩
  go_wp2_with fail
  refine (unhide H3 _).mono ?_
  rintro e w2 ⟨rfl, hb2⟩
  go_wp2_with fail
  refine (unhide H4 _).mono ?_
  rintro e w3 ⟨rfl, hb3⟩
  go_wp2_with fail
  refine (unhide H1 _).mono ?_
  rintro e w4 ⟨rfl, hb4⟩
  go_wp2_with fail
  refine (unhide H6 _).mono ?_
  rintro e w5 ⟨rfl, hb5⟩
  go_wp2_with fail
  refine (unhide H7 _).mono ?_
  rintro e w6 ⟨rfl, hb6⟩
  go_wp2_with fail
  refine (unhide H1 _).mono ?_
  rintro e w7 ⟨rfl, hb7⟩
  go_wp2_with fail
  refine (unhide HA _).mono ?_
  rintro e w8 ⟨rfl, hb8⟩
  go_wp2
  go_ret
  exact ⟨rfl, tr2 hb0 (tr2 hb1 (tr2 hb2 (tr2 hb3 (tr2 hb4 (tr2 hb5 (tr2 hb6 (tr2 hb7 hb8)))))))⟩

set_option maxRecDepth 100000 in
set_option maxHeartbeats 4000000 in
theorem window_in_last (f x : Nat) (hf : f < 4294967296) (hx : x < 4294967296) (hne : x ≠ f) (hd : ((x : Int) - (f : Int)) % 4294967296 < 4294967295) (w : World) :
    Calls Try.prog 5 #[.int .u32 (f : Int), .int .u32 4294967295, .int .u32 (x : Int)] w fun e w' => e = .returned (.bool true) ∧ Below w.heap.size w w' := by
  have H1 := hide (fun w => in_at (f : Int) (f : Int) 4294967295 0 w (by omega) (by omega) (by omega) (by omega) (by omega) (by omega) (by omega) (by omega) (by omega))
  rw [decide_eq_true (by omega)] at H1
  have H2 := hide (fun w => in_at (((f : Int) + 4294967295 - 1) % 4294967296) (f : Int) 4294967295 4294967294 w (by omega) (by omega) (by omega) (by omega) (by omega) (by omega) (by omega) (by omega) (by omega))
  rw [decide_eq_true (by omega)] at H2
  have H3 := hide (fun w => in_at (((f : Int) + 4294967295) % 4294967296) (f : Int) 4294967295 4294967295 w (by omega) (by omega) (by omega) (by omega) (by omega) (by omega) (by omega) (by omega) (by omega))
  rw [decide_eq_false (by omega)] at H3
  have H4 := hide (fun w => in_at (((f : Int) - 1) % 4294967296) (f : Int) 4294967295 4294967295 w (by omega) (by omega) (by omega) (by omega) (by omega) (by omega) (by omega) (by omega) (by omega))
  rw [decide_eq_false (by omega)] at H4
  have H5 := hide (fun w => in_at (x : Int) (f : Int) 4294967295 (((x : Int) - (f : Int)) % 4294967296) w (by omega) (by omega) (by omega) (by omega) (by omega) (by omega) (by omega) (by omega) (by omega))
  rw [decide_eq_true (by omega)] at H5
  have H6 := hide (fun w => in_at (x : Int) (f : Int) 0 (((x : Int) - (f : Int)) % 4294967296) w (by omega) (by omega) (by omega) (by omega) (by omega) (by omega) (by omega) (by omega) (by omega))
  rw [decide_eq_false (by omega)] at H6
  have H7 := hide (fun w => in_at (x : Int) (((f : Int) + 1) % 4294967296) 4294967294 (((x : Int) - (f : Int)) % 4294967296 - 1) w (by omega) (by omega) (by omega) (by omega) (by omega) (by omega) (by omega) (by omega) (by omega))
  rw [decide_eq_true (by omega)] at H7
  have g1 : decide (((x : Int) - (f : Int)) % 4294967296 < 4294967295) = true := decide_eq_true (by omega)
  have g2 : ((x : Int) == (f : Int)) = false := beq_false_of_ne (by omega)
  have HA := hide alive_any
  go_enter Try.func5, Try.ntmps5
  go_wp2_with fail
  refine (unhide H1 _).mono ?_
  rintro e w0 ⟨rfl, hb0⟩
  go_wp2_with fail
  refine (unhide H2 _).mono ?_
  rintro e w1 ⟨rfl, hb1⟩
  go_wp2_with fail
  refine (unhide H3 _).mono ?_
  rintro e w2 ⟨rfl, hb2⟩
  go_wp2_with fail
  refine (unhide H4 _).mono ?_
  rintro e w3 ⟨rfl, hb3⟩
  go_wp2_with fail
  refine (unhide H5 _).mono ?_
  rintro e w4 ⟨rfl, hb4⟩
  go_wp2_with fail
  refine (unhide H6 _).mono ?_
  rintro e w5 ⟨rfl, hb5⟩
  go_wp2_with fail
  refine (unhide H7 _).mono ?_
  rintro e w6 ⟨rfl, hb6⟩
  go_wp2_with fail
  refine (unhide H5 _).mono ?_
  rintro e w7 ⟨rfl, hb7⟩
  go_wp2_with fail
  refine (unhide H7 _).mono ?_
  rintro e w8 ⟨rfl, hb8⟩
  go_wp2_with fail
  refine (unhide HA _).mono ?_
  rintro e w9 ⟨rfl, hb9⟩
  go_wp2
  go_ret
  exact ⟨rfl, tr2 hb0 (tr2 hb1 (tr2 hb2 (tr2 hb3 (tr2 hb4 (tr2 hb5 (tr2 hb6 (tr2 hb7 (tr2 hb8 hb9))))))))⟩

set_option maxRecDepth 100000 in
set_option maxHeartbeats 4000000 in
theorem window_out_last (f x : Nat) (hf : f < 4294967296) (hx : x < 4294967296) (_hne : x ≠ f) (hd : ¬ ((x : Int) - (f : Int)) % 4294967296 < 4294967295) (w : World) :
    Calls Try.prog 5 #[.int .u32 (f : Int), .int .u32 4294967295, .int .u32 (x : Int)] w fun e w' => e = .returned (.bool true) ∧ Below w.heap.size w w' := by
  have H1 := hide (fun w => in_at (f : Int) (f : Int) 4294967295 0 w (by omega) (by omega) (by omega) (by omega) (by omega) (by omega) (by omega) (by omega) (by omega))
  rw [decide_eq_true (by omega)] at H1
  have H2 := hide (fun w => in_at (((f : Int) + 4294967295 - 1) % 4294967296) (f : Int) 4294967295 4294967294 w (by omega) (by omega) (by omega) (by omega) (by omega) (by omega) (by omega) (by omega) (by omega))
  rw [decide_eq_true (by omega)] at H2
  have H3 := hide (fun w => in_at (((f : Int) + 4294967295) % 4294967296) (f : Int) 4294967295 4294967295 w (by omega) (by omega) (by omega) (by omega) (by omega) (by omega) (by omega) (by omega) (by omega))
  rw [decide_eq_false (by omega)] at H3
  have H4 := hide (fun w => in_at (((f : Int) - 1) % 4294967296) (f : Int) 4294967295 4294967295 w (by omega) (by omega) (by omega) (by omega) (by omega) (by omega) (by omega) (by omega) (by omega))
  rw [decide_eq_false (by omega)] at H4
  have H5 := hide (fun w => in_at (x : Int) (f : Int) 4294967295 (((x : Int) - (f : Int)) % 4294967296) w (by omega) (by omega) (by omega) (by omega) (by omega) (by omega) (by omega) (by omega) (by omega))
  rw [decide_eq_false (by omega)] at H5
  have H7 := hide (fun w => in_at (x : Int) (((f : Int) + 1) % 4294967296) 4294967294 (((x : Int) - (f : Int)) % 4294967296 - 1) w (by omega) (by omega) (by omega) (by omega) (by omega) (by omega) (by omega) (by omega) (by omega))
  rw [decide_eq_false (by omega)] at H7
  have g1 : decide (((x : Int) - (f : Int)) % 4294967296 < 4294967295) = false := decide_eq_false (by omega)
  have g2 : ((x : Int) == (f : Int)) = false := beq_false_of_ne (by omega)
  have HA := hide alive_any
  go_enter Try.func5, Try.ntmps5
  go_wp2_with fail
  refine (unhide H1 _).mono ?_
  rintro e w0 ⟨rfl, hb0⟩
  go_wp2_with fail
  refine (unhide H2 _).mono ?_
  rintro e w1 ⟨rfl, hb1⟩
  go_wp2_with fail
  refine (unhide H3 _).mono ?_
  rintro e w2 ⟨rfl, hb2⟩
  go_wp2_with fail
  refine (unhide H4 _).mono ?_
  rintro e w3 ⟨rfl, hb3⟩
  go_wp2_with fail
  refine (unhide H5 _).mono ?_
  rintro e w4 ⟨rfl, hb4⟩
  go_wp2_with fail
  refine (unhide H7 _).mono ?_
  rintro e w5 ⟨rfl, hb5⟩
  go_wp2_with fail
  refine (unhide H5 _).mono ?_
  rintro e w6 ⟨rfl, hb6⟩
  go_wp2_with fail
  refine (unhide H7 _).mono ?_
  rintro e w7 ⟨rfl, hb7⟩
  go_wp2_with fail
  refine (unhide HA _).mono ?_
  rintro e w8 ⟨rfl, hb8⟩
  go_wp2
  go_ret
  exact ⟨rfl, tr2 hb0 (tr2 hb1 (tr2 hb2 (tr2 hb3 (tr2 hb4 (tr2 hb5 (tr2 hb6 (tr2 hb7 hb8)))))))⟩

theorem seqWindow_walk (f n x : Int) (hf : (Lit.int .u32 f).wf = true) (hn : (Lit.int .u32 n).wf = true) (hx : (Lit.int .u32 x).wf = true) (w : World) :
    Calls Try.prog 5 #[.int .u32 f, .int .u32 n, .int .u32 x] w fun e w' => e = .returned (.bool true) ∧ Below w.heap.size w w' := by
  obtain ⟨f, rfl, h1⟩ := nat32 hf
  obtain ⟨n, rfl, h2⟩ := nat32 hn
  obtain ⟨x, rfl, h3⟩ := nat32 hx
  by_cases h0 : n = 0
  · subst h0; exact window_none f x h1 h3 w
  · by_cases h4 : n = 4294967295
    · subst h4
      by_cases h5 : x = f
      · subst h5; exact window_at_last x h1 w
      · by_cases h6 : ((x : Int) - (f : Int)) % 4294967296 < 4294967295
        · exact window_in_last f x h1 h3 h5 h6 w
        · exact window_out_last f x h1 h3 h5 h6 w
    · by_cases h5 : x = f
      · subst h5; exact window_at x n h1 h2 (by omega) (by omega) w
      · by_cases h6 : ((x : Int) - (f : Int)) % 4294967296 < (n : Int)
        · exact window_in f n x h1 h2 h3 (by omega) (by omega) h5 h6 w
        · exact window_out f n x h1 h2 h3 (by omega) (by omega) h5 h6 w

end Go.Proofs.Ytbohnkcmaelmkaa
