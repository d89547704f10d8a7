/- The walk of the statement SeqTakes, over the loaded program, out of the contracts. No conditions but the numbers' bounds. -/
import Derived.Test.YtbohnkcmaelmkaaAlive03
import Derived.Test.YtbohnkcmaelmkaaSeqAt
namespace Go.Proofs.Ytbohnkcmaelmkaa
open Go.RowKit

theorem takes_some (s n x v d l : Int) (w : World) (hs : 0 ≤ s) (hs2 : s < 4294967296) (hx : 0 ≤ x) (hx2 : x < 4294967296) (hv : 0 ≤ v) (hv2 : v < 4294967296) (hn : 0 < n) (hn2 : n ≤ 9223372036854775807)
    (hd : 0 ≤ d) (hd2 : d < 4294967296) (hl : 0 ≤ l) (hl2 : l < 4294967296) (h : (s - x - d) % 4294967296 = 0) (k : (d + n - 1 - l) % 4294967296 = 0) :
    Calls Try.prog 15 #[.int .u32 s, .int .i64 n, .int .u32 x, .int .u32 v] w fun e w' => e = .returned (.bool (decide (d < v) || decide (l < v))) ∧ Below w.heap.size w w' := by
  obtain ⟨s, rfl⟩ := Int.eq_ofNat_of_zero_le hs
  obtain ⟨x, rfl⟩ := Int.eq_ofNat_of_zero_le hx
  obtain ⟨v, rfl⟩ := Int.eq_ofNat_of_zero_le hv
  have q := takes_any s n x v w (by omega) (by omega) (by omega) (by omega) (by omega)
  unfold takes at q
  rw [if_neg (by omega), if_neg (by omega), inW_of s x v d (by omega) hd hd2 h, inW_of (lastOf s n) x v l (by omega) hl hl2 (by unfold lastOf; omega)] at q
  exact q
theorem takes_none (s x v d : Int) (w : World) (hs : 0 ≤ s) (hs2 : s < 4294967296) (hx : 0 ≤ x) (hx2 : x < 4294967296) (hv : 0 < v) (hv2 : v < 4294967296)
    (hd : 0 ≤ d) (hd2 : d < 4294967296) (h : (s - x - d) % 4294967296 = 0) :
    Calls Try.prog 15 #[.int .u32 s, .int .i64 0, .int .u32 x, .int .u32 v] w fun e w' => e = .returned (.bool (decide (d < v))) ∧ Below w.heap.size w w' := by
  obtain ⟨s, rfl⟩ := Int.eq_ofNat_of_zero_le hs
  obtain ⟨x, rfl⟩ := Int.eq_ofNat_of_zero_le hx
  obtain ⟨v, rfl⟩ := Int.eq_ofNat_of_zero_le (Int.le_of_lt hv)
  have q := takes_any s 0 x v w (by omega) (by omega) (by omega) (by omega) (by omega)
  unfold takes at q
  rw [if_neg (by omega), if_pos rfl, if_neg (by omega), inW_of s x v d (by omega) hd hd2 h] at q
  exact q
theorem takes_shut (s x : Int) (b : Bool) (w : World) (hs : 0 ≤ s) (hs2 : s < 4294967296) (hx : 0 ≤ x) (hx2 : x < 4294967296) (hb : b = decide (s = x)) :
    Calls Try.prog 15 #[.int .u32 s, .int .i64 0, .int .u32 x, .int .u32 0] w fun e w' => e = .returned (.bool b) ∧ Below w.heap.size w w' := by
  obtain ⟨s, rfl⟩ := Int.eq_ofNat_of_zero_le hs
  obtain ⟨x, rfl⟩ := Int.eq_ofNat_of_zero_le hx
  have q := takes_any s 0 x 0 w (by omega) (by omega) (by omega) (by omega) (by omega)
  unfold takes at q
  rw [if_neg (by omega), if_pos rfl, if_pos rfl, show decide (s = x) = b by rw [hb]; exact decide_eq_decide.2 (by omega)] at q
  exact q
theorem takes_back (s n x v : Int) (w : World) (hs : 0 ≤ s) (hs2 : s < 4294967296) (hx : 0 ≤ x) (hx2 : x < 4294967296) (hv : 0 ≤ v) (hv2 : v < 4294967296) (hn : n < 0) (hn2 : -9223372036854775808 ≤ n) :
    Calls Try.prog 15 #[.int .u32 s, .int .i64 n, .int .u32 x, .int .u32 v] w fun e w' => e = .returned (.bool false) ∧ Below w.heap.size w w' := by
  obtain ⟨s, rfl⟩ := Int.eq_ofNat_of_zero_le hs
  obtain ⟨x, rfl⟩ := Int.eq_ofNat_of_zero_le hx
  obtain ⟨v, rfl⟩ := Int.eq_ofNat_of_zero_le hv
  have q := takes_any s n x v w (by omega) (by omega) (by omega) (by omega) (by omega)
  unfold takes at q
  rw [if_pos hn] at q
  exact q

set_option maxRecDepth 100000 in
set_option maxHeartbeats 4000000 in
theorem takes_00 (x : Nat) (hx : x < 4294967296) (w : World) :
    Calls Try.prog 6 #[.int .u32 (x : Int), .int .u16 0, .int .u16 0, .int .i32 0] w fun e w' => e = .returned (.bool true) ∧ Below w.heap.size w w' := by
  have H1 := hide (fun w => takes_shut (x : Int) (x : Int) true w (by omega) (by omega) (by omega) (by omega) (by simp))
  have HA := hide alive_any
  go_enter Try.func6, Try.ntmps6
  go_wp2_with fail
  refine (unhide H1 _).mono ?_
  rintro e w0 ⟨rfl, hb0⟩
  go_wp2_with fail
  refine (unhide HA _).mono ?_
  rintro e w1 ⟨rfl, hb1⟩
  go_wp2
  go_ret
  exact ⟨rfl, tr2 hb0 hb1⟩

set_option maxRecDepth 100000 in
set_option maxHeartbeats 4000000 in
theorem takes_0o (x : Nat) (o : Int) (hx : x < 4294967296) (ho : -2147483648 ≤ o) (ho2 : o ≤ 2147483647) (h : o ≠ 0) (w : World) :
    Calls Try.prog 6 #[.int .u32 (x : Int), .int .u16 0, .int .u16 0, .int .i32 o] w fun e w' => e = .returned (.bool true) ∧ Below w.heap.size w w' := by
  have H1 := hide (fun w => takes_shut (((x : Int) + o) % 4294967296) (x : Int) false w (by omega) (by omega) (by omega) (by omega) (decide_eq_false (by omega)).symm)
  have g1 : (o == 0) = false := beq_false_of_ne h
  have HA := hide alive_any
  go_enter Try.func6, Try.ntmps6
  go_wp2_with fail
  refine (unhide H1 _).mono ?_
  rintro e w0 ⟨rfl, hb0⟩
  go_wp2_with fail
  refine (unhide HA _).mono ?_
  rintro e w1 ⟨rfl, hb1⟩
  go_wp2
  go_ret
  exact ⟨rfl, tr2 hb0 hb1⟩

set_option maxRecDepth 100000 in
set_option maxHeartbeats 4000000 in
theorem takes_0z (x z : Nat) (o : Int) (hx : x < 4294967296) (hz : z < 65536) (_ho : -2147483648 ≤ o) (_ho2 : o ≤ 2147483647) (h : 0 < z) (w : World) :
    Calls Try.prog 6 #[.int .u32 (x : Int), .int .u16 0, .int .u16 (z : Int), .int .i32 o] w fun e w' => e = .returned (.bool true) ∧ Below w.heap.size w w' := by
  have H1 := hide (fun w => takes_some (((x : Int) + o) % 4294967296) (z : Int) (x : Int) 0 (o % 4294967296) ((o + (z : Int) - 1) % 4294967296) w (by omega) (by omega) (by omega) (by omega) (by omega) (by omega) (by omega) (by omega) (by omega) (by omega) (by omega) (by omega) (by omega) (by omega))
  rw [decide_eq_false (by omega), decide_eq_false (by omega), Bool.false_or] at H1
  have g1 : ((z : Int) == 0) = false := beq_false_of_ne (by omega)
  have HA := hide alive_any
  go_enter Try.func6, Try.ntmps6
  go_wp2_with fail
  refine (unhide H1 _).mono ?_
  rintro e w0 ⟨rfl, hb0⟩
  go_wp2_with fail
  refine (unhide HA _).mono ?_
  rintro e w1 ⟨rfl, hb1⟩
  go_wp2
  go_ret
  exact ⟨rfl, tr2 hb0 hb1⟩

set_option maxRecDepth 100000 in
set_option maxHeartbeats 4000000 in
theorem takes_vlo (x v : Nat) (o : Int) (hx : x < 4294967296) (hv : v < 65536) (ho : -2147483648 ≤ o) (ho2 : o ≤ 2147483647) (h0 : 0 < v) (h : o < 0) (w : World) :
    Calls Try.prog 6 #[.int .u32 (x : Int), .int .u16 (v : Int), .int .u16 0, .int .i32 o] w fun e w' => e = .returned (.bool true) ∧ Below w.heap.size w w' := by
  have H1 := hide (fun w => takes_none (((x : Int) + o) % 4294967296) (x : Int) (v : Int) (o % 4294967296) w (by omega) (by omega) (by omega) (by omega) (by omega) (by omega) (by omega) (by omega) (by omega))
  rw [decide_eq_false (by omega)] at H1
  have g1 : ((v : Int) == 0) = false := beq_false_of_ne (by omega)
  have g2 : decide (0 ≤ o) = false := decide_eq_false (by omega)
  have HA := hide alive_any
  go_enter Try.func6, Try.ntmps6
  go_wp2_with fail
  refine (unhide H1 _).mono ?_
  rintro e w0 ⟨rfl, hb0⟩
  go_wp2_with fail
  refine (unhide HA _).mono ?_
  rintro e w1 ⟨rfl, hb1⟩
  go_wp2
  go_ret
  exact ⟨rfl, tr2 hb0 hb1⟩

set_option maxRecDepth 100000 in
set_option maxHeartbeats 4000000 in
theorem takes_vin (x v : Nat) (o : Int) (hx : x < 4294967296) (hv : v < 65536) (ho : -2147483648 ≤ o) (ho2 : o ≤ 2147483647) (h0 : 0 < v) (h : 0 ≤ o ∧ o < (v : Int)) (w : World) :
    Calls Try.prog 6 #[.int .u32 (x : Int), .int .u16 (v : Int), .int .u16 0, .int .i32 o] w fun e w' => e = .returned (.bool true) ∧ Below w.heap.size w w' := by
  have H1 := hide (fun w => takes_none (((x : Int) + o) % 4294967296) (x : Int) (v : Int) (o % 4294967296) w (by omega) (by omega) (by omega) (by omega) (by omega) (by omega) (by omega) (by omega) (by omega))
  rw [decide_eq_true (by omega)] at H1
  have g1 : ((v : Int) == 0) = false := beq_false_of_ne (by omega)
  have g2 : decide (0 ≤ o) = true := decide_eq_true (by omega)
  have g3 : decide (o < (v : Int)) = true := decide_eq_true (by omega)
  have HA := hide alive_any
  go_enter Try.func6, Try.ntmps6
  go_wp2_with fail
  refine (unhide H1 _).mono ?_
  rintro e w0 ⟨rfl, hb0⟩
  go_wp2_with fail
  refine (unhide HA _).mono ?_
  rintro e w1 ⟨rfl, hb1⟩
  go_wp2
  go_ret
  exact ⟨rfl, tr2 hb0 hb1⟩

set_option maxRecDepth 100000 in
set_option maxHeartbeats 4000000 in
theorem takes_vhi (x v : Nat) (o : Int) (hx : x < 4294967296) (hv : v < 65536) (ho : -2147483648 ≤ o) (ho2 : o ≤ 2147483647) (h0 : 0 < v) (h : (v : Int) ≤ o) (w : World) :
    Calls Try.prog 6 #[.int .u32 (x : Int), .int .u16 (v : Int), .int .u16 0, .int .i32 o] w fun e w' => e = .returned (.bool true) ∧ Below w.heap.size w w' := by
  have H1 := hide (fun w => takes_none (((x : Int) + o) % 4294967296) (x : Int) (v : Int) (o % 4294967296) w (by omega) (by omega) (by omega) (by omega) (by omega) (by omega) (by omega) (by omega) (by omega))
  rw [decide_eq_false (by omega)] at H1
  have g1 : ((v : Int) == 0) = false := beq_false_of_ne (by omega)
  have g2 : decide (0 ≤ o) = true := decide_eq_true (by omega)
  have g3 : decide (o < (v : Int)) = false := decide_eq_false (by omega)
  have HA := hide alive_any
  go_enter Try.func6, Try.ntmps6
  go_wp2_with fail
  refine (unhide H1 _).mono ?_
  rintro e w0 ⟨rfl, hb0⟩
  go_wp2_with fail
  refine (unhide HA _).mono ?_
  rintro e w1 ⟨rfl, hb1⟩
  go_wp2
  go_ret
  exact ⟨rfl, tr2 hb0 hb1⟩

set_option maxRecDepth 100000 in
set_option maxHeartbeats 4000000 in
theorem takes_za (x v z : Nat) (o : Int) (hx : x < 4294967296) (hv : v < 65536) (hz : z < 65536) (ho : -2147483648 ≤ o) (ho2 : o ≤ 2147483647) (h0 : 0 < v) (h1 : 0 < z) (h : 0 ≤ o ∧ o < (v : Int)) (w : World) :
    Calls Try.prog 6 #[.int .u32 (x : Int), .int .u16 (v : Int), .int .u16 (z : Int), .int .i32 o] w fun e w' => e = .returned (.bool true) ∧ Below w.heap.size w w' := by
  have H1 := hide (fun w => takes_some (((x : Int) + o) % 4294967296) (z : Int) (x : Int) (v : Int) (o % 4294967296) ((o + (z : Int) - 1) % 4294967296) w (by omega) (by omega) (by omega) (by omega) (by omega) (by omega) (by omega) (by omega) (by omega) (by omega) (by omega) (by omega) (by omega) (by omega))
  rw [decide_eq_true (p := o % 4294967296 < (v : Int)) (by omega), Bool.true_or] at H1
  have H2 := hide (fun w => takes_back (((x : Int) + o) % 4294967296) (-1) (x : Int) (v : Int) w (by omega) (by omega) (by omega) (by omega) (by omega) (by omega) (by omega) (by omega))
  have g1 : ((v : Int) == 0) = false := beq_false_of_ne (by omega)
  have g2 : ((z : Int) == 0) = false := beq_false_of_ne (by omega)
  have g3 : decide (0 ≤ o) = true := decide_eq_true (by omega)
  have g4 : decide (o < (v : Int)) = true := decide_eq_true (by omega)
  have g5 : decide (0 ≤ o + (z : Int) - 1) = true := decide_eq_true (by omega)
  have g6 : decide (o + (z : Int) - 1 < 0) = false := decide_eq_false (by omega)
  have g7 : decide ((v : Int) ≤ o) = false := decide_eq_false (by omega)
  have HA := hide alive_any
  go_enter Try.func6, Try.ntmps6
  go_wp2_with fail
  refine (unhide H1 _).mono ?_
  rintro e w0 ⟨rfl, hb0⟩
  go_wp2_with fail
  refine (unhide H2 _).mono ?_
  rintro e w1 ⟨rfl, hb1⟩
  go_wp2_with fail
  refine (unhide HA _).mono ?_
  rintro e w2 ⟨rfl, hb2⟩
  go_wp2
  go_ret
  exact ⟨rfl, tr2 hb0 (tr2 hb1 hb2)⟩

set_option maxRecDepth 100000 in
set_option maxHeartbeats 4000000 in
theorem takes_zb (x v z : Nat) (o : Int) (hx : x < 4294967296) (hv : v < 65536) (hz : z < 65536) (ho : -2147483648 ≤ o) (ho2 : o ≤ 2147483647) (h0 : 0 < v) (h1 : 0 < z) (h : o + (z : Int) ≤ 0) (w : World) :
    Calls Try.prog 6 #[.int .u32 (x : Int), .int .u16 (v : Int), .int .u16 (z : Int), .int .i32 o] w fun e w' => e = .returned (.bool true) ∧ Below w.heap.size w w' := by
  have H1 := hide (fun w => takes_some (((x : Int) + o) % 4294967296) (z : Int) (x : Int) (v : Int) (o % 4294967296) ((o + (z : Int) - 1) % 4294967296) w (by omega) (by omega) (by omega) (by omega) (by omega) (by omega) (by omega) (by omega) (by omega) (by omega) (by omega) (by omega) (by omega) (by omega))
  rw [decide_eq_false (p := o % 4294967296 < (v : Int)) (by omega), decide_eq_false (by omega), Bool.false_or] at H1
  have H2 := hide (fun w => takes_back (((x : Int) + o) % 4294967296) (-1) (x : Int) (v : Int) w (by omega) (by omega) (by omega) (by omega) (by omega) (by omega) (by omega) (by omega))
  have g1 : ((v : Int) == 0) = false := beq_false_of_ne (by omega)
  have g2 : ((z : Int) == 0) = false := beq_false_of_ne (by omega)
  have g3 : decide (0 ≤ o) = false := decide_eq_false (by omega)
  have g4 : decide (o < (v : Int)) = true := decide_eq_true (by omega)
  have g5 : decide (0 ≤ o + (z : Int) - 1) = false := decide_eq_false (by omega)
  have g6 : decide (o + (z : Int) - 1 < 0) = true := decide_eq_true (by omega)
  have g7 : decide ((v : Int) ≤ o) = false := decide_eq_false (by omega)
  have HA := hide alive_any
  go_enter Try.func6, Try.ntmps6
  go_wp2_with fail
  refine (unhide H1 _).mono ?_
  rintro e w0 ⟨rfl, hb0⟩
  go_wp2_with fail
  refine (unhide H2 _).mono ?_
  rintro e w1 ⟨rfl, hb1⟩
  go_wp2_with fail
  refine (unhide HA _).mono ?_
  rintro e w2 ⟨rfl, hb2⟩
  go_wp2
  go_ret
  exact ⟨rfl, tr2 hb0 (tr2 hb1 hb2)⟩

set_option maxRecDepth 100000 in
set_option maxHeartbeats 4000000 in
theorem takes_zc (x v z : Nat) (o : Int) (hx : x < 4294967296) (hv : v < 65536) (hz : z < 65536) (ho : -2147483648 ≤ o) (ho2 : o ≤ 2147483647) (h0 : 0 < v) (h1 : 0 < z) (h : o < 0 ∧ 1 ≤ o + (z : Int) ∧ o + (z : Int) ≤ (v : Int)) (w : World) :
    Calls Try.prog 6 #[.int .u32 (x : Int), .int .u16 (v : Int), .int .u16 (z : Int), .int .i32 o] w fun e w' => e = .returned (.bool true) ∧ Below w.heap.size w w' := by
  have H1 := hide (fun w => takes_some (((x : Int) + o) % 4294967296) (z : Int) (x : Int) (v : Int) (o % 4294967296) ((o + (z : Int) - 1) % 4294967296) w (by omega) (by omega) (by omega) (by omega) (by omega) (by omega) (by omega) (by omega) (by omega) (by omega) (by omega) (by omega) (by omega) (by omega))
  rw [decide_eq_false (p := o % 4294967296 < (v : Int)) (by omega), decide_eq_true (by omega), Bool.false_or] at H1
  have H2 := hide (fun w => takes_back (((x : Int) + o) % 4294967296) (-1) (x : Int) (v : Int) w (by omega) (by omega) (by omega) (by omega) (by omega) (by omega) (by omega) (by omega))
  have g1 : ((v : Int) == 0) = false := beq_false_of_ne (by omega)
  have g2 : ((z : Int) == 0) = false := beq_false_of_ne (by omega)
  have g3 : decide (0 ≤ o) = false := decide_eq_false (by omega)
  have g4 : decide (o < (v : Int)) = true := decide_eq_true (by omega)
  have g5 : decide (0 ≤ o + (z : Int) - 1) = true := decide_eq_true (by omega)
  have g6 : decide (o + (z : Int) - 1 < (v : Int)) = true := decide_eq_true (by omega)
  have g7 : decide (o + (z : Int) - 1 < 0) = false := decide_eq_false (by omega)
  have g8 : decide ((v : Int) ≤ o) = false := decide_eq_false (by omega)
  have HA := hide alive_any
  go_enter Try.func6, Try.ntmps6
  go_wp2_with fail
  refine (unhide H1 _).mono ?_
  rintro e w0 ⟨rfl, hb0⟩
  go_wp2_with fail
  refine (unhide H2 _).mono ?_
  rintro e w1 ⟨rfl, hb1⟩
  go_wp2_with fail
  refine (unhide HA _).mono ?_
  rintro e w2 ⟨rfl, hb2⟩
  go_wp2
  go_ret
  exact ⟨rfl, tr2 hb0 (tr2 hb1 hb2)⟩

set_option maxRecDepth 100000 in
set_option maxHeartbeats 4000000 in
theorem takes_zd (x v z : Nat) (o : Int) (hx : x < 4294967296) (hv : v < 65536) (hz : z < 65536) (ho : -2147483648 ≤ o) (ho2 : o ≤ 2147483647) (h0 : 0 < v) (h1 : 0 < z) (h : o < 0 ∧ (v : Int) < o + (z : Int)) (w : World) :
    Calls Try.prog 6 #[.int .u32 (x : Int), .int .u16 (v : Int), .int .u16 (z : Int), .int .i32 o] w fun e w' => e = .returned (.bool true) ∧ Below w.heap.size w w' := by
  have H1 := hide (fun w => takes_some (((x : Int) + o) % 4294967296) (z : Int) (x : Int) (v : Int) (o % 4294967296) ((o + (z : Int) - 1) % 4294967296) w (by omega) (by omega) (by omega) (by omega) (by omega) (by omega) (by omega) (by omega) (by omega) (by omega) (by omega) (by omega) (by omega) (by omega))
  rw [decide_eq_false (p := o % 4294967296 < (v : Int)) (by omega), decide_eq_false (by omega), Bool.false_or] at H1
  have H2 := hide (fun w => takes_back (((x : Int) + o) % 4294967296) (-1) (x : Int) (v : Int) w (by omega) (by omega) (by omega) (by omega) (by omega) (by omega) (by omega) (by omega))
  have g1 : ((v : Int) == 0) = false := beq_false_of_ne (by omega)
  have g2 : ((z : Int) == 0) = false := beq_false_of_ne (by omega)
  have g3 : decide (0 ≤ o) = false := decide_eq_false (by omega)
  have g4 : decide (o < (v : Int)) = true := decide_eq_true (by omega)
  have g5 : decide (0 ≤ o + (z : Int) - 1) = true := decide_eq_true (by omega)
  have g6 : decide (o + (z : Int) - 1 < (v : Int)) = false := decide_eq_false (by omega)
  have g7 : decide (o + (z : Int) - 1 < 0) = false := decide_eq_false (by omega)
  have g8 : decide ((v : Int) ≤ o) = false := decide_eq_false (by omega)
  have HA := hide alive_any
  go_enter Try.func6, Try.ntmps6
  go_wp2_with fail
  refine (unhide H1 _).mono ?_
  rintro e w0 ⟨rfl, hb0⟩
  go_wp2_with fail
  refine (unhide H2 _).mono ?_
  rintro e w1 ⟨rfl, hb1⟩
  go_wp2_with fail
  refine (unhide HA _).mono ?_
  rintro e w2 ⟨rfl, hb2⟩
  go_wp2
  go_ret
  exact ⟨rfl, tr2 hb0 (tr2 hb1 hb2)⟩

set_option maxRecDepth 100000 in
set_option maxHeartbeats 4000000 in
theorem takes_ze (x v z : Nat) (o : Int) (hx : x < 4294967296) (hv : v < 65536) (hz : z < 65536) (ho : -2147483648 ≤ o) (ho2 : o ≤ 2147483647) (h0 : 0 < v) (h1 : 0 < z) (h : (v : Int) ≤ o) (w : World) :
    Calls Try.prog 6 #[.int .u32 (x : Int), .int .u16 (v : Int), .int .u16 (z : Int), .int .i32 o] w fun e w' => e = .returned (.bool true) ∧ Below w.heap.size w w' := by
  have H1 := hide (fun w => takes_some (((x : Int) + o) % 4294967296) (z : Int) (x : Int) (v : Int) (o % 4294967296) ((o + (z : Int) - 1) % 4294967296) w (by omega) (by omega) (by omega) (by omega) (by omega) (by omega) (by omega) (by omega) (by omega) (by omega) (by omega) (by omega) (by omega) (by omega))
  rw [decide_eq_false (p := o % 4294967296 < (v : Int)) (by omega), decide_eq_false (by omega), Bool.false_or] at H1
  have H2 := hide (fun w => takes_back (((x : Int) + o) % 4294967296) (-1) (x : Int) (v : Int) w (by omega) (by omega) (by omega) (by omega) (by omega) (by omega) (by omega) (by omega))
  have g1 : ((v : Int) == 0) = false := beq_false_of_ne (by omega)
  have g2 : ((z : Int) == 0) = false := beq_false_of_ne (by omega)
  have g3 : decide (0 ≤ o) = true := decide_eq_true (by omega)
  have g4 : decide (o < (v : Int)) = false := decide_eq_false (by omega)
  have g5 : decide (0 ≤ o + (z : Int) - 1) = true := decide_eq_true (by omega)
  have g6 : decide (o + (z : Int) - 1 < (v : Int)) = false := decide_eq_false (by omega)
  have g7 : decide (o + (z : Int) - 1 < 0) = false := decide_eq_false (by omega)
  have g8 : decide ((v : Int) ≤ o) = true := decide_eq_true (by omega)
  have HA := hide alive_any
  go_enter Try.func6, Try.ntmps6
  go_wp2_with fail
  refine (unhide H1 _).mono ?_
  rintro e w0 ⟨rfl, hb0⟩
  go_wp2_with fail
  refine (unhide H2 _).mono ?_
  rintro e w1 ⟨rfl, hb1⟩
  go_wp2_with fail
  refine (unhide HA _).mono ?_
  rintro e w2 ⟨rfl, hb2⟩
  go_wp2
  go_ret
  exact ⟨rfl, tr2 hb0 (tr2 hb1 hb2)⟩

theorem seqTakes_walk (x v z o : Int) (hx : (Lit.int .u32 x).wf = true) (hv : (Lit.int .u16 v).wf = true) (hz : (Lit.int .u16 z).wf = true) (ho : (Lit.int .i32 o).wf = true) (w : World) :
    Calls Try.prog 6 #[.int .u32 x, .int .u16 v, .int .u16 z, .int .i32 o] w fun e w' => e = .returned (.bool true) ∧ Below w.heap.size w w' := by
  obtain ⟨x, rfl, h1⟩ := nat32 hx
  obtain ⟨v, rfl, h2⟩ := nat16 hv
  obtain ⟨z, rfl, h3⟩ := nat16 hz
  obtain ⟨h4, h5⟩ : -2147483648 ≤ o ∧ o ≤ 2147483647 := by have := bounds_i32 ho; omega
  by_cases v0 : v = 0
  · subst v0
    by_cases z0 : z = 0
    · subst z0
      by_cases o0 : o = 0
      · subst o0; exact takes_00 x h1 w
      · exact takes_0o x o h1 h4 h5 o0 w
    · exact takes_0z x z o h1 h3 h4 h5 (by omega) w
  · by_cases z0 : z = 0
    · subst z0
      rcases (by omega : o < 0 ∨ (0 ≤ o ∧ o < (v : Int)) ∨ (v : Int) ≤ o) with h | h | h
      · exact takes_vlo x v o h1 h2 h4 h5 (by omega) h w
      · exact takes_vin x v o h1 h2 h4 h5 (by omega) h w
      · exact takes_vhi x v o h1 h2 h4 h5 (by omega) h w
    · rcases (by omega : (0 ≤ o ∧ o < (v : Int)) ∨ o + (z : Int) ≤ 0 ∨ (o < 0 ∧ 1 ≤ o + (z : Int) ∧ o + (z : Int) ≤ (v : Int)) ∨ (o < 0 ∧ (v : Int) < o + (z : Int)) ∨ (v : Int) ≤ o) with h | h | h | h | h
      · exact takes_za x v z o h1 h2 h3 h4 h5 (by omega) (by omega) h w
      · exact takes_zb x v z o h1 h2 h3 h4 h5 (by omega) (by omega) h w
      · exact takes_zc x v z o h1 h2 h3 h4 h5 (by omega) (by omega) h w
      · exact takes_zd x v z o h1 h2 h3 h4 h5 (by omega) (by omega) h w
      · exact takes_ze x v z o h1 h2 h3 h4 h5 (by omega) (by omega) h w

end Go.Proofs.Ytbohnkcmaelmkaa
