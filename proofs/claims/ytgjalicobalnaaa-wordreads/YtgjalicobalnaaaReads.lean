/- The walk of the statement WordReads over the loaded program: it answers true, and no memory that was there has turned. Conditions: texts no longer than may be, numbers in their kinds' bounds. -/
import Derived.Test.YtgjalicobalnaaaAlive01
import Derived.OpenShut
namespace Go.Proofs.Ytgjalicobalnaaa
open Go.RowKit

theorem Num1_any (s : ByteArray) (a : Int) (w : World) (hs : s.size ≤ maxLen) (ha : a ≤ 9223372036854775807) :
    Calls Try.prog 8 #[.string s, .int .i64 a, .int .i64 1] w fun e w' => e = .returned (.tuple #[.int .u64 (numAt s a 1 : Nat), .int .i64 (errAt s.size a 1)]) ∧ w' = w :=
  Num_any s a 1 w hs (by omega) ha

theorem Num2_any (s : ByteArray) (a : Int) (w : World) (hs : s.size ≤ maxLen) (ha : a ≤ 9223372036854775807) :
    Calls Try.prog 8 #[.string s, .int .i64 a, .int .i64 2] w fun e w' => e = .returned (.tuple #[.int .u64 (numAt s a 2 : Nat), .int .i64 (errAt s.size a 2)]) ∧ w' = w :=
  Num_any s a 2 w hs (by omega) ha

theorem Num4_any (s : ByteArray) (a : Int) (w : World) (hs : s.size ≤ maxLen) (ha : a ≤ 9223372036854775807) :
    Calls Try.prog 8 #[.string s, .int .i64 a, .int .i64 4] w fun e w' => e = .returned (.tuple #[.int .u64 (numAt s a 4 : Nat), .int .i64 (errAt s.size a 4)]) ∧ w' = w :=
  Num_any s a 4 w hs (by omega) ha

theorem Num6_any (s : ByteArray) (a : Int) (w : World) (hs : s.size ≤ maxLen) (ha : a ≤ 9223372036854775807) :
    Calls Try.prog 8 #[.string s, .int .i64 a, .int .i64 6] w fun e w' => e = .returned (.tuple #[.int .u64 (numAt s a 6 : Nat), .int .i64 (errAt s.size a 6)]) ∧ w' = w :=
  Num_any s a 6 w hs (by omega) ha

set_option maxHeartbeats 400000 in
theorem reads_long (s : ByteArray) (a n : Int) (w : World) (hs : s.size ≤ maxLen) (hl : 4096 < s.size) :
    Calls Try.prog 3 #[.string s, .int .i64 a, .int .i64 n] w fun e w' => e = .returned (.bool true) ∧ Below w.heap.size w w' := by
  unfold maxLen at hs
  go_enter Try.func3, Try.ntmps3
  go_wp2_with fail
  refine (alive_any _).mono ?_
  rintro e w1 ⟨rfl, hb1⟩
  go_wp2
  go_ret
  exact ⟨rfl, hb1⟩

set_option maxHeartbeats 1000000 in
set_option maxRecDepth 100000 in
theorem reads_core (s T V : ByteArray) (a n : Int) (N1 N2 N4 N6 : Nat) (E1 E2 E4 E6 ET ER : Int) (w : World) (hs : s.size ≤ 4096) (b1 : N1 < 256) (b2 : N2 < 65536) (b4 : N4 < 4294967296)
    (C1 : Hid (∀ w, Calls Try.prog 7 #[.string s, .int .i64 a] w fun e w' => e = .returned (.tuple #[.int .u8 (N1 : Nat), .int .i64 E1]) ∧ Below w.heap.size w w'))
    (D1 : Hid (∀ w, Calls Try.prog 8 #[.string s, .int .i64 a, .int .i64 1] w fun e w' => e = .returned (.tuple #[.int .u64 (N1 : Nat), .int .i64 E1]) ∧ w' = w))
    (C2 : Hid (∀ w, Calls Try.prog 9 #[.string s, .int .i64 a] w fun e w' => e = .returned (.tuple #[.int .u16 (N2 : Nat), .int .i64 E2]) ∧ Below w.heap.size w w'))
    (D2 : Hid (∀ w, Calls Try.prog 8 #[.string s, .int .i64 a, .int .i64 2] w fun e w' => e = .returned (.tuple #[.int .u64 (N2 : Nat), .int .i64 E2]) ∧ w' = w))
    (C4 : Hid (∀ w, Calls Try.prog 10 #[.string s, .int .i64 a] w fun e w' => e = .returned (.tuple #[.int .u32 (N4 : Nat), .int .i64 E4]) ∧ Below w.heap.size w w'))
    (D4 : Hid (∀ w, Calls Try.prog 8 #[.string s, .int .i64 a, .int .i64 4] w fun e w' => e = .returned (.tuple #[.int .u64 (N4 : Nat), .int .i64 E4]) ∧ w' = w))
    (C6 : Hid (∀ w, Calls Try.prog 11 #[.string s, .int .i64 a] w fun e w' => e = .returned (.tuple #[.int .u64 (N6 : Nat), .int .i64 E6]) ∧ Below w.heap.size w w'))
    (D6 : Hid (∀ w, Calls Try.prog 8 #[.string s, .int .i64 a, .int .i64 6] w fun e w' => e = .returned (.tuple #[.int .u64 (N6 : Nat), .int .i64 E6]) ∧ w' = w))
    (CT : Hid (∀ w, Calls Try.prog 12 #[.string s, .int .i64 a, .int .i64 n] w fun e w' => e = .returned (.tuple #[.string T, .int .i64 ET]) ∧ Below w.heap.size w w'))
    (DT : Hid (∀ w, Calls Try.prog 13 #[.string s, .int .i64 a, .int .i64 n] w fun e w' => e = .returned (.tuple #[.string T, .int .i64 ET]) ∧ w' = w))
    (CR : Hid (∀ w, Calls Try.prog 14 #[.string s, .int .i64 a] w fun e w' => e = .returned (.tuple #[.string V, .int .i64 ER]) ∧ Below w.heap.size w w'))
    (DR : Hid (∀ w, Calls Try.prog 15 #[.string s, .int .i64 a] w fun e w' => e = .returned (.tuple #[.string V, .int .i64 ER]) ∧ w' = w)) :
    Calls Try.prog 3 #[.string s, .int .i64 a, .int .i64 n] w fun e w' => e = .returned (.bool true) ∧ Below w.heap.size w w' := by
  go_enter Try.func3, Try.ntmps3
  go_wp2_with fail
  refine (unhide C1 _).mono ?_
  rintro e w1 ⟨rfl, hb1⟩
  go_wp2_with fail
  refine (unhide D1 _).mono ?_
  rintro e w' ⟨rfl, hw'⟩
  rw [hw']
  clear hw' w'
  go_wp2_with fail
  refine (unhide C2 _).mono ?_
  rintro e w2 ⟨rfl, hb2⟩
  go_wp2_with fail
  refine (unhide D2 _).mono ?_
  rintro e w' ⟨rfl, hw'⟩
  rw [hw']
  clear hw' w'
  go_wp2_with fail
  refine (unhide C4 _).mono ?_
  rintro e w3 ⟨rfl, hb3⟩
  go_wp2_with fail
  refine (unhide D4 _).mono ?_
  rintro e w' ⟨rfl, hw'⟩
  rw [hw']
  clear hw' w'
  go_wp2_with fail
  refine (unhide C6 _).mono ?_
  rintro e w4 ⟨rfl, hb4⟩
  go_wp2_with fail
  refine (unhide D6 _).mono ?_
  rintro e w' ⟨rfl, hw'⟩
  rw [hw']
  clear hw' w'
  go_wp2_with fail
  refine (unhide CT _).mono ?_
  rintro e w5 ⟨rfl, hb5⟩
  go_wp2_with fail
  refine (unhide DT _).mono ?_
  rintro e w' ⟨rfl, hw'⟩
  rw [hw']
  clear hw' w'
  go_wp2_with fail
  refine (unhide CR _).mono ?_
  rintro e w6 ⟨rfl, hb6⟩
  go_wp2_with fail
  refine (unhide DR _).mono ?_
  rintro e w' ⟨rfl, hw'⟩
  rw [hw']
  clear hw' w'
  go_wp2_with fail
  refine (alive_any _).mono ?_
  rintro e w7 ⟨rfl, hb7⟩
  go_wp2
  go_ret
  refine ⟨rfl, ?_⟩
  have k2 := hb1.trans (hb2.mono hb1.size)
  have k3 := k2.trans (hb3.mono k2.size)
  have k4 := k3.trans (hb4.mono k3.size)
  have k5 := k4.trans (hb5.mono k4.size)
  have k6 := k5.trans (hb6.mono k5.size)
  exact k6.trans (hb7.mono k6.size)

theorem wordReads_walk (s : ByteArray) (a n : Int) (w0 : s.size ≤ maxLen) (w1 : (Lit.int .i64 a).wf = true) (_w2 : (Lit.int .i64 n).wf = true) (w : World) :
    Calls Try.prog 3 #[.string s, .int .i64 a, .int .i64 n] w fun e w' => e = .returned (.bool true) ∧ Below w.heap.size w w' := by
  have h1 := bounds_i64 w1
  by_cases hl : 4096 < s.size
  · exact reads_long s a n w w0 hl
  · exact reads_core s (textAt s a n) (restAt s a) a n (numAt s a 1) (numAt s a 2) (numAt s a 4) (numAt s a 6) (errAt s.size a 1) (errAt s.size a 2) (errAt s.size a 4) (errAt s.size a 6) (errAt s.size a n) (errRest s.size a) w (by omega)
      (numAt_lt1 s a) (numAt_lt2 s a) (numAt_lt4 s a)
      (hide fun w => byte_any s a w w0 h1.2) (hide fun w => Num1_any s a w w0 h1.2) (hide fun w => two_any s a w w0 h1.2) (hide fun w => Num2_any s a w w0 h1.2)
      (hide fun w => four_any s a w w0 h1.2) (hide fun w => Num4_any s a w w0 h1.2) (hide fun w => six_any s a w w0 h1.2) (hide fun w => Num6_any s a w w0 h1.2)
      (hide fun w => text_any s a n w (by omega) h1.2) (hide fun w => Text_any s a n w w0 h1.2) (hide fun w => rest_any s a w (by omega) h1.2) (hide fun w => Rest_any s a w w0 h1.2)

end Go.Proofs.Ytgjalicobalnaaa
