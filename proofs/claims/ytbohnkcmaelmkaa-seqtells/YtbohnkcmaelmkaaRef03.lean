/- The contracts of the document's answer for layer 3, over the loaded program. Conditions: numbers in their kinds' bounds. -/
import Derived.Test.YtbohnkcmaelmkaaSeq
namespace Go.Proofs.Ytbohnkcmaelmkaa
open Go.RowKit

theorem ahead_any (a b : Nat) (w : World) (ha : a < 4294967296) (hb : b < 4294967296) :
    Calls Try.prog 18 #[.int .u32 (a : Int), .int .u32 (b : Int)] w fun e w' => e = .returned (.int .i64 (dist a b : Nat)) ∧ w' = w := by
  go_enter Try.func18, Try.ntmps18
  go_wp2
  go_ret
  exact ⟨by rw [show ((dist a b : Nat) : Int) = ((b : Int) - (a : Int) + 4294967296) % 4294967296 by unfold dist; omega]; rfl, rfl⟩

set_option maxRecDepth 100000 in
theorem Less_any (a b : Nat) (w : World) (ha : a < 4294967296) (hb : b < 4294967296) :
    Calls Try.prog 8 #[.int .u32 (a : Int), .int .u32 (b : Int)] w fun e w' => e = .returned (.bool (less a b)) ∧ w' = w := by
  have H := hide (fun w => ahead_any a b w ha hb)
  have hd := dist_lt a b
  have hl : less a b = (decide (1 ≤ dist a b) && decide ((dist a b : Int) < 2147483648)) := by
    unfold less behind
    by_cases h1 : 1 ≤ dist a b <;> by_cases h2 : dist a b < 2147483648 <;> simp [h1, h2] <;> omega
  generalize less a b = l at *
  generalize dist a b = d at *
  have HL := hide hl
  clear hl
  by_cases h1 : 1 ≤ d
  · have g1 : decide ((1 : Int) ≤ (d : Int)) = true := decide_eq_true (by omega)
    have g2 : decide (1 ≤ d) = true := decide_eq_true h1
    go_enter Try.func8, Try.ntmps8
    go_wp2_with fail
    refine (unhide H _).mono ?_
    rintro e w1 ⟨rfl, rfl⟩
    go_wp2
    go_ret
    exact ⟨by rw [unhide HL, g2, Bool.true_and]; rfl, rfl⟩
  · obtain rfl : d = 0 := by omega
    go_enter Try.func8, Try.ntmps8
    go_wp2_with fail
    refine (unhide H _).mono ?_
    rintro e w1 ⟨rfl, rfl⟩
    go_wp2
    go_ret
    exact ⟨by rw [unhide HL]; rfl, rfl⟩

set_option maxRecDepth 100000 in
theorem Behind_any (a b : Nat) (w : World) (ha : a < 4294967296) (hb : b < 4294967296) :
    Calls Try.prog 10 #[.int .u32 (a : Int), .int .u32 (b : Int)] w fun e w' => e = .returned (.int .i64 (behind a b)) ∧ w' = w := by
  have H := hide (fun w => ahead_any a b w ha hb)
  have hd := dist_lt a b
  have HL : Hid (behind a b = if dist a b < 2147483648 then (dist a b : Int) else (dist a b : Int) - 4294967296) := rfl
  generalize behind a b = l at *
  generalize dist a b = d at *
  by_cases h1 : d < 2147483648
  · have HM := hide ((unhide HL).trans (if_pos h1))
    have g1 : decide ((2147483648 : Int) ≤ (d : Int)) = false := decide_eq_false (by omega)
    clear HL
    go_enter Try.func10, Try.ntmps10
    go_wp2_with fail
    refine (unhide H _).mono ?_
    rintro e w1 ⟨rfl, rfl⟩
    go_wp2
    go_ret
    exact ⟨by rw [unhide HM]; rfl, rfl⟩
  · have HM := hide ((unhide HL).trans (if_neg h1))
    have g1 : decide ((2147483648 : Int) ≤ (d : Int)) = true := decide_eq_true (by omega)
    clear HL
    go_enter Try.func10, Try.ntmps10
    go_wp2_with fail
    refine (unhide H _).mono ?_
    rintro e w1 ⟨rfl, rfl⟩
    go_wp2
    go_ret
    exact ⟨by rw [unhide HM]; rfl, rfl⟩

theorem In_any (x f n : Nat) (w : World) (hx : x < 4294967296) (hf : f < 4294967296) (hn : n < 4294967296) :
    Calls Try.prog 12 #[.int .u32 (x : Int), .int .u32 (f : Int), .int .u32 (n : Int)] w fun e w' => e = .returned (.bool (inW x f n)) ∧ w' = w := by
  have H := hide (fun w => ahead_any f x w hf hx)
  have hd := dist_lt f x
  unfold inW
  generalize dist f x = d at *
  go_enter Try.func12, Try.ntmps12
  go_wp2_with fail
  refine (unhide H _).mono ?_
  rintro e w1 ⟨rfl, rfl⟩
  go_wp2
  go_ret
  exact ⟨rfl, rfl⟩

theorem Max_any (a b : Nat) (w : World) (ha : a < 4294967296) (hb : b < 4294967296) :
    Calls Try.prog 14 #[.int .u32 (a : Int), .int .u32 (b : Int)] w fun e w' => e = .returned (.int .u32 (most a b : Nat)) ∧ w' = w := by
  have H := hide (fun w => Less_any a b w ha hb)
  unfold most
  generalize less a b = l at *
  cases l
  · go_enter Try.func14, Try.ntmps14
    go_wp2_with fail
    refine (unhide H _).mono ?_
    rintro e w1 ⟨rfl, rfl⟩
    go_wp2
    go_ret
    exact ⟨rfl, rfl⟩
  · go_enter Try.func14, Try.ntmps14
    go_wp2_with fail
    refine (unhide H _).mono ?_
    rintro e w1 ⟨rfl, rfl⟩
    go_wp2
    go_ret
    exact ⟨rfl, rfl⟩

theorem last_mod (s : Nat) (n : Int) : ((s : Int) + n % 4294967296 + 4294967296 - 1) % 4294967296 = (lastOf s n : Int) := by
  unfold lastOf
  omega
theorem lastOf_lt (s : Nat) (n : Int) : lastOf s n < 4294967296 := by unfold lastOf; omega

set_option maxRecDepth 100000 in
set_option maxHeartbeats 1000000 in
theorem Takes_neg (s : Nat) (n : Int) (x v : Nat) (w : World) (h : n < 0) :
    Calls Try.prog 16 #[.int .u32 (s : Int), .int .i64 n, .int .u32 (x : Int), .int .u32 (v : Int)] w fun e w' => e = .returned (.bool (takes s n x v)) ∧ w' = w := by
  have HT : Hid (takes s n x v = false) := by unfold takes; exact if_pos h
  have g1 : decide (n < 0) = true := decide_eq_true h
  go_enter Try.func16, Try.ntmps16
  go_wp2
  go_ret
  exact ⟨by rw [unhide HT]; rfl, rfl⟩

set_option maxRecDepth 100000 in
set_option maxHeartbeats 1000000 in
theorem Takes_none (s : Nat) (n : Int) (x v : Nat) (w : World) (_hs : s < 4294967296) (hx : x < 4294967296) (hv : v < 4294967296) (hn : -9223372036854775808 ≤ n) (hn2 : n ≤ 9223372036854775807) (h : n = 0) (h0 : v = 0) :
    Calls Try.prog 16 #[.int .u32 (s : Int), .int .i64 n, .int .u32 (x : Int), .int .u32 (v : Int)] w fun e w' => e = .returned (.bool (takes s n x v)) ∧ w' = w := by
  subst h h0
  have HT : Hid (takes s 0 x 0 = ((s : Int) == (x : Int))) := by
    unfold takes
    by_cases hsx : s = x
    · subst hsx; simp [Hid]
    · simp [Hid, hsx]; omega
  go_enter Try.func16, Try.ntmps16
  go_wp2
  go_ret
  exact ⟨by rw [unhide HT]; rfl, rfl⟩

set_option maxRecDepth 100000 in
set_option maxHeartbeats 1000000 in
theorem Takes_zero (s : Nat) (n : Int) (x v : Nat) (w : World) (hs : s < 4294967296) (hx : x < 4294967296) (hv : v < 4294967296) (hn : -9223372036854775808 ≤ n) (hn2 : n ≤ 9223372036854775807) (h : n = 0) (h0 : v ≠ 0) :
    Calls Try.prog 16 #[.int .u32 (s : Int), .int .i64 n, .int .u32 (x : Int), .int .u32 (v : Int)] w fun e w' => e = .returned (.bool (takes s n x v)) ∧ w' = w := by
  have H1 := hide (fun w => In_any s x v w hs hx hv)
  subst h
  have HT : Hid (takes s 0 x v = inW s x v) := by
    unfold takes
    simp [Hid, h0]
  have g1 : ((v : Int) == 0) = false := beq_false_of_ne (by omega)
  generalize inW s x v = l at *
  go_enter Try.func16, Try.ntmps16
  go_wp2_with fail
  refine (unhide H1 _).mono ?_
  rintro e w1 ⟨rfl, rfl⟩
  go_wp2
  go_ret
  exact ⟨by rw [unhide HT]; rfl, rfl⟩

set_option maxRecDepth 100000 in
set_option maxHeartbeats 1000000 in
theorem Takes_shut (s : Nat) (n : Int) (x v : Nat) (w : World) (hs : s < 4294967296) (_hx : x < 4294967296) (hv : v < 4294967296) (hn : -9223372036854775808 ≤ n) (hn2 : n ≤ 9223372036854775807) (h : 0 < n) (h0 : v = 0) :
    Calls Try.prog 16 #[.int .u32 (s : Int), .int .i64 n, .int .u32 (x : Int), .int .u32 (v : Int)] w fun e w' => e = .returned (.bool (takes s n x v)) ∧ w' = w := by
  subst h0
  have g0 : decide (n < 0) = false := decide_eq_false (by omega)
  have g1 : (n == 0) = false := beq_false_of_ne (by omega)
  have hl := last_mod s n
  have hl2 := lastOf_lt s n
  have HT : Hid (takes s n x 0 = false) := by
    unfold takes
    rw [if_neg (by omega), if_neg (by omega)]
    simp [inW, Hid]
  generalize takes s n x 0 = l at *
  generalize lastOf s n = k at *
  go_enter Try.func16, Try.ntmps16
  go_wp2
  go_ret
  exact ⟨by rw [unhide HT]; rfl, rfl⟩

set_option maxRecDepth 100000 in
set_option maxHeartbeats 1000000 in
theorem Takes_first (s : Nat) (n : Int) (x v : Nat) (w : World) (hs : s < 4294967296) (hx : x < 4294967296) (hv : v < 4294967296) (hn : -9223372036854775808 ≤ n) (hn2 : n ≤ 9223372036854775807) (h : 0 < n) (h0 : v ≠ 0) (hi : inW s x v = true) :
    Calls Try.prog 16 #[.int .u32 (s : Int), .int .i64 n, .int .u32 (x : Int), .int .u32 (v : Int)] w fun e w' => e = .returned (.bool (takes s n x v)) ∧ w' = w := by
  have H1 := hide (fun w => In_any s x v w hs hx hv)
  have H2 := hide (fun w => In_any (lastOf s n) x v w (lastOf_lt s n) hx hv)
  rw [hi] at H1
  rw [← last_mod] at H2
  have HT : Hid (takes s n x v = true) := by
    unfold takes
    rw [if_neg (by omega), if_neg (by omega), hi]
    exact rfl
  have g0 : decide (n < 0) = false := decide_eq_false (by omega)
  have g1 : (n == 0) = false := beq_false_of_ne (by omega)
  generalize takes s n x v = l at *
  generalize inW (lastOf s n) x v = m at *
  have g3 : ((v : Int) == 0) = false := beq_false_of_ne (by omega)
  have g4 : decide (0 < v) = true := decide_eq_true (by omega)
  clear hi
  go_enter Try.func16, Try.ntmps16
  go_wp2_with fail
  refine (unhide H1 _).mono ?_
  rintro e w1 ⟨rfl, rfl⟩
  go_wp2
  go_ret
  exact ⟨by rw [unhide HT]; rfl, rfl⟩

set_option maxRecDepth 100000 in
set_option maxHeartbeats 1000000 in
theorem Takes_last (s : Nat) (n : Int) (x v : Nat) (w : World) (hs : s < 4294967296) (hx : x < 4294967296) (hv : v < 4294967296) (hn : -9223372036854775808 ≤ n) (hn2 : n ≤ 9223372036854775807) (h : 0 < n) (h0 : v ≠ 0) (hi : inW s x v = false) :
    Calls Try.prog 16 #[.int .u32 (s : Int), .int .i64 n, .int .u32 (x : Int), .int .u32 (v : Int)] w fun e w' => e = .returned (.bool (takes s n x v)) ∧ w' = w := by
  have H1 := hide (fun w => In_any s x v w hs hx hv)
  have H2 := hide (fun w => In_any (lastOf s n) x v w (lastOf_lt s n) hx hv)
  rw [hi] at H1
  rw [← last_mod] at H2
  have HT : Hid (takes s n x v = inW (lastOf s n) x v) := by
    unfold takes
    rw [if_neg (by omega), if_neg (by omega), hi]
    exact Bool.false_or _
  have g0 : decide (n < 0) = false := decide_eq_false (by omega)
  have g1 : (n == 0) = false := beq_false_of_ne (by omega)
  generalize takes s n x v = l at *
  generalize inW (lastOf s n) x v = m at *
  have g3 : ((v : Int) == 0) = false := beq_false_of_ne (by omega)
  have g4 : decide (0 < v) = true := decide_eq_true (by omega)
  clear hi
  go_enter Try.func16, Try.ntmps16
  go_wp2_with fail
  refine (unhide H1 _).mono ?_
  rintro e w1 ⟨rfl, rfl⟩
  go_wp2_with fail
  refine (unhide H2 _).mono ?_
  rintro e w1 ⟨rfl, rfl⟩
  go_wp2
  go_ret
  exact ⟨by rw [unhide HT]; rfl, rfl⟩

theorem Takes_any (s : Nat) (n : Int) (x v : Nat) (w : World) (hs : s < 4294967296) (hx : x < 4294967296) (hv : v < 4294967296) (hn : -9223372036854775808 ≤ n) (hn2 : n ≤ 9223372036854775807) :
    Calls Try.prog 16 #[.int .u32 (s : Int), .int .i64 n, .int .u32 (x : Int), .int .u32 (v : Int)] w fun e w' => e = .returned (.bool (takes s n x v)) ∧ w' = w := by
  rcases Int.lt_trichotomy n 0 with h | h | h
  · exact Takes_neg s n x v w h
  · by_cases h0 : v = 0
    · exact Takes_none s n x v w hs hx hv hn hn2 h h0
    · exact Takes_zero s n x v w hs hx hv hn hn2 h h0
  · by_cases h0 : v = 0
    · exact Takes_shut s n x v w hs hx hv hn hn2 h h0
    · cases hi : inW s x v
      · exact Takes_last s n x v w hs hx hv hn hn2 h h0 hi
      · exact Takes_first s n x v w hs hx hv hn hn2 h h0 hi

end Go.Proofs.Ytbohnkcmaelmkaa
