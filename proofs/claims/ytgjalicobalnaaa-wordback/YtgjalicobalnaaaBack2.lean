/- The walk of the statement WordBack over the loaded program, at places that are not below 0. Conditions: texts of at most 4096 bytes, numbers in their kinds' bounds. -/
import Derived.Test.YtgjalicobalnaaaBack
namespace Go.Proofs.Ytgjalicobalnaaa
open Go.RowKit

theorem rd1 (t : ByteArray) (k x : Nat) (ht : t.size ≤ maxLen) (hk : k ≤ 9223372036854775807) (hx : x < 18446744073709551616) (hnum : numAt t (k : Int) 1 = x % 256) (herr : errAt t.size (k : Int) 1 = 0) :
    ∃ N : Nat, N < 256 ∧ bits .and .u64 (x : Int) 255 = (N : Int) ∧
      Hid (∀ w, Calls Try.prog 7 #[.string t, .int .i64 (k : Int)] w fun e w' => e = .returned (.tuple #[.int .u8 (N : Int), .int .i64 0]) ∧ Below w.heap.size w w') := by
  refine ⟨x % 256, Nat.mod_lt _ (by omega), mask8 x hx, hide fun w => ?_⟩
  have h := byte_any t k w ht (by omega)
  rw [hnum, herr] at h
  exact h

theorem rd2 (t : ByteArray) (k x : Nat) (ht : t.size ≤ maxLen) (hk : k ≤ 9223372036854775807) (hx : x < 18446744073709551616) (hnum : numAt t (k : Int) 2 = x % 65536) (herr : errAt t.size (k : Int) 2 = 0) :
    ∃ N : Nat, N < 65536 ∧ bits .and .u64 (x : Int) 65535 = (N : Int) ∧
      Hid (∀ w, Calls Try.prog 9 #[.string t, .int .i64 (k : Int)] w fun e w' => e = .returned (.tuple #[.int .u16 (N : Int), .int .i64 0]) ∧ Below w.heap.size w w') := by
  refine ⟨x % 65536, Nat.mod_lt _ (by omega), mask16 x hx, hide fun w => ?_⟩
  have h := two_any t k w ht (by omega)
  rw [hnum, herr] at h
  exact h

theorem rd4 (t : ByteArray) (k x : Nat) (ht : t.size ≤ maxLen) (hk : k ≤ 9223372036854775807) (hx : x < 18446744073709551616) (hnum : numAt t (k : Int) 4 = x % 4294967296) (herr : errAt t.size (k : Int) 4 = 0) :
    ∃ N : Nat, N < 4294967296 ∧ bits .and .u64 (x : Int) 4294967295 = (N : Int) ∧
      Hid (∀ w, Calls Try.prog 10 #[.string t, .int .i64 (k : Int)] w fun e w' => e = .returned (.tuple #[.int .u32 (N : Int), .int .i64 0]) ∧ Below w.heap.size w w') := by
  refine ⟨x % 4294967296, Nat.mod_lt _ (by omega), mask32 x hx, hide fun w => ?_⟩
  have h := four_any t k w ht (by omega)
  rw [hnum, herr] at h
  exact h

theorem rd6 (t : ByteArray) (k x : Nat) (ht : t.size ≤ maxLen) (hk : k ≤ 9223372036854775807) (hx : x < 18446744073709551616) (hnum : numAt t (k : Int) 6 = x % 281474976710656) (herr : errAt t.size (k : Int) 6 = 0) :
    ∃ N : Nat, N < 281474976710656 ∧ bits .and .u64 (x : Int) 281474976710655 = (N : Int) ∧
      Hid (∀ w, Calls Try.prog 11 #[.string t, .int .i64 (k : Int)] w fun e w' => e = .returned (.tuple #[.int .u64 (N : Int), .int .i64 0]) ∧ Below w.heap.size w w') := by
  refine ⟨x % 281474976710656, Nat.mod_lt _ (by omega), mask48 x hx, hide fun w => ?_⟩
  have h := six_any t k w ht (by omega)
  rw [hnum, herr] at h
  exact h

theorem below3 {w W w1 w2 w3 : World} (h : Below w.heap.size w W) (h1 : Below W.heap.size W w1) (h2 : Below w1.heap.size w1 w2) (h3 : Below w2.heap.size w2 w3) (n : Nat) : Below w.heap.size w (w3.drewN n) :=
  below_drewN ((below2 h h1 h2).trans (h3.mono (below2 h h1 h2).size)) n
theorem below4 {w W w4 : World} (h : Below w.heap.size w W) (h4 : Below W.heap.size W w4) : Below w.heap.size w w4 := h.trans (h4.mono h.size)

set_option maxHeartbeats 4000000 in
set_option maxRecDepth 100000 in
theorem back_pos (s : ByteArray) (k x : Nat) (w : World) (hs : s.size ≤ 4096) (hx : x < 18446744073709551616) (hk : k ≤ 9223372036854775807) :
    Calls Try.prog 4 #[.string s, .int .i64 (k : Int), .int .u64 (x : Int)] w fun e w' => e = .returned (.bool true) ∧ Below w.heap.size w w' := by
  go_enter Try.func4, Try.ntmps4
  go_wp2
  go_loopw [7] (fun n W => ∃ j : Nat, 1 ≤ j ∧ j ≤ 7 ∧ n = .int .i64 (j : Int) ∧ Below w.heap.size w W) (fun n _ => 7 - (intOf n).toNat)
  case atStart => exact ⟨1, by omega, by omega, rfl, Below.refl _ _⟩
  case round =>
    obtain ⟨j, h1, h2, rfl, hW⟩ := hrel
    by_cases hj : j ≤ 6
    · by_cases hok : k + j ≤ s.size
      · obtain ⟨t, hlen, hpre, hpost, S0, T0, hnum, herr⟩ := ok_facts s k j x hs hok
        have S := hide S0
        have T := hide T0
        have HN := hide hnum
        have HE := hide herr
        have HP := hide hpost
        clear S0 T0 hnum herr hpost
        rcases (by omega : j = 1 ∨ j = 2 ∨ j = 3 ∨ j = 4 ∨ j = 5 ∨ j = 6) with hj | hj | hj | hj | hj | hj <;> subst hj
        · have hd : decide ((1 : Int) ≤ (s.size : Int) - (k : Int)) = true := decide_eq_true (by omega)
          have hpost := unhide HP
          obtain ⟨N, hN, hm, R⟩ := rd1 t k x (by unfold maxLen; omega) hk hx (unhide HN) (unhide HE)
          go_wp2_with fail
          refine (of_1 x _ hx).mono ?_
          rintro e w1 ⟨rfl, hb1⟩
          go_wp2_with fail
          refine (unhide S _).mono ?_
          rintro e w2 ⟨rfl, hb2⟩
          go_wp2_with fail
          refine (unhide T _).mono ?_
          rintro e w3 ⟨rfl, hb3⟩
          go_wp2_with fail
          go_quiet (fail)
          go_wp2_with fail
          refine (unhide R _).mono ?_
          rintro e w4 ⟨rfl, hb4⟩
          go_wp2
          go_roundw
          case rel => exact ⟨2, by omega, by omega, by go_num, below4 (below3 hW hb1 hb2 hb3 nq) hb4⟩
          case measure => simp [intOf]
        · have hd : decide ((2 : Int) ≤ (s.size : Int) - (k : Int)) = true := decide_eq_true (by omega)
          have hpost := unhide HP
          obtain ⟨N, hN, hm, R⟩ := rd2 t k x (by unfold maxLen; omega) hk hx (unhide HN) (unhide HE)
          go_wp2_with fail
          refine (of_2 x _ hx).mono ?_
          rintro e w1 ⟨rfl, hb1⟩
          go_wp2_with fail
          refine (unhide S _).mono ?_
          rintro e w2 ⟨rfl, hb2⟩
          go_wp2_with fail
          refine (unhide T _).mono ?_
          rintro e w3 ⟨rfl, hb3⟩
          go_wp2_with fail
          go_quiet (fail)
          go_wp2_with fail
          refine (unhide R _).mono ?_
          rintro e w4 ⟨rfl, hb4⟩
          go_wp2
          go_roundw
          case rel => exact ⟨3, by omega, by omega, by go_num, below4 (below3 hW hb1 hb2 hb3 nq) hb4⟩
          case measure => simp [intOf]
        · have hd : decide ((3 : Int) ≤ (s.size : Int) - (k : Int)) = true := decide_eq_true (by omega)
          have hpost := unhide HP
          go_wp2_with fail
          refine (of_3 x _ hx).mono ?_
          rintro e w1 ⟨rfl, hb1⟩
          go_wp2_with fail
          refine (unhide S _).mono ?_
          rintro e w2 ⟨rfl, hb2⟩
          go_wp2_with fail
          refine (unhide T _).mono ?_
          rintro e w3 ⟨rfl, hb3⟩
          go_wp2_with fail
          go_quiet (fail)
          go_wp2
          go_roundw
          case rel => exact ⟨4, by omega, by omega, by go_num, below3 hW hb1 hb2 hb3 nq⟩
          case measure => simp [intOf]
        · have hd : decide ((4 : Int) ≤ (s.size : Int) - (k : Int)) = true := decide_eq_true (by omega)
          have hpost := unhide HP
          obtain ⟨N, hN, hm, R⟩ := rd4 t k x (by unfold maxLen; omega) hk hx (unhide HN) (unhide HE)
          go_wp2_with fail
          refine (of_4 x _ hx).mono ?_
          rintro e w1 ⟨rfl, hb1⟩
          go_wp2_with fail
          refine (unhide S _).mono ?_
          rintro e w2 ⟨rfl, hb2⟩
          go_wp2_with fail
          refine (unhide T _).mono ?_
          rintro e w3 ⟨rfl, hb3⟩
          go_wp2_with fail
          go_quiet (fail)
          go_wp2_with fail
          refine (unhide R _).mono ?_
          rintro e w4 ⟨rfl, hb4⟩
          go_wp2
          go_roundw
          case rel => exact ⟨5, by omega, by omega, by go_num, below4 (below3 hW hb1 hb2 hb3 nq) hb4⟩
          case measure => simp [intOf]
        · have hd : decide ((5 : Int) ≤ (s.size : Int) - (k : Int)) = true := decide_eq_true (by omega)
          have hpost := unhide HP
          go_wp2_with fail
          refine (of_5 x _ hx).mono ?_
          rintro e w1 ⟨rfl, hb1⟩
          go_wp2_with fail
          refine (unhide S _).mono ?_
          rintro e w2 ⟨rfl, hb2⟩
          go_wp2_with fail
          refine (unhide T _).mono ?_
          rintro e w3 ⟨rfl, hb3⟩
          go_wp2_with fail
          go_quiet (fail)
          go_wp2
          go_roundw
          case rel => exact ⟨6, by omega, by omega, by go_num, below3 hW hb1 hb2 hb3 nq⟩
          case measure => simp [intOf]
        · have hd : decide ((6 : Int) ≤ (s.size : Int) - (k : Int)) = true := decide_eq_true (by omega)
          have hpost := unhide HP
          obtain ⟨N, hN, hm, R⟩ := rd6 t k x (by unfold maxLen; omega) hk hx (unhide HN) (unhide HE)
          go_wp2_with fail
          refine (of_6 x _ hx).mono ?_
          rintro e w1 ⟨rfl, hb1⟩
          go_wp2_with fail
          refine (unhide S _).mono ?_
          rintro e w2 ⟨rfl, hb2⟩
          go_wp2_with fail
          refine (unhide T _).mono ?_
          rintro e w3 ⟨rfl, hb3⟩
          go_wp2_with fail
          go_quiet (fail)
          go_wp2_with fail
          refine (unhide R _).mono ?_
          rintro e w4 ⟨rfl, hb4⟩
          go_wp2
          go_roundw
          case rel => exact ⟨7, by omega, by omega, by go_num, below4 (below3 hW hb1 hb2 hb3 nq) hb4⟩
          case measure => simp [intOf]
      · have O := hide (fun w => of_any x j w hx)
        rw [clip8_nat j (by omega)] at O
        by_cases hks : k ≤ s.size
        · go_wp2_with fail
          refine (unhide O _).mono ?_
          rintro e w1 ⟨rfl, hb1⟩
          go_wp2_with fail
          refine (short_set s k j x _ hs hk (by omega)).mono ?_
          rintro e w2 ⟨rfl, hb2⟩
          have hd : decide ((j : Int) ≤ (s.size : Int) - (k : Int)) = false := decide_eq_false (by omega)
          go_wp2
          go_roundw
          case rel => exact ⟨j + 1, by omega, by omega, by go_num, below2 hW hb1 hb2⟩
          case measure => simp [intOf]; omega
        · go_wp2_with fail
          refine (unhide O _).mono ?_
          rintro e w1 ⟨rfl, hb1⟩
          go_wp2_with fail
          refine (short_set s k j x _ hs hk (by omega)).mono ?_
          rintro e w2 ⟨rfl, hb2⟩
          go_wp2
          go_roundw
          case rel => exact ⟨j + 1, by omega, by omega, by go_num, below2 hW hb1 hb2⟩
          case measure => simp [intOf]; omega
    · go_wp2_with fail
      refine (alive_any _).mono ?_
      rintro e w1 ⟨rfl, hb1⟩
      go_wp2
      go_ret
      exact ⟨rfl, hW.trans (hb1.mono hW.size)⟩

theorem wordBack_walk (s : ByteArray) (a x : Int) (w0 : s.size ≤ maxLen) (w1 : (Lit.int .i64 a).wf = true) (w2 : (Lit.int .u64 x).wf = true) (w : World) :
    Calls Try.prog 4 #[.string s, .int .i64 a, .int .u64 x] w fun e w' => e = .returned (.bool true) ∧ Below w.heap.size w w' := by
  have h1 := bounds_i64 w1
  have h2 := bounds_u64 w2
  by_cases hl : 4096 < s.size
  · exact back_long s a x w w0 hl
  · by_cases ha : a < 0
    · have h := back_neg s a x.toNat w (by omega) (by omega) ha
      rw [show ((x.toNat : Nat) : Int) = x from by omega] at h
      exact h
    · have h := back_pos s a.toNat x.toNat w (by omega) (by omega) (by omega)
      rw [show ((x.toNat : Nat) : Int) = x from by omega, show ((a.toNat : Nat) : Int) = a from by omega] at h
      exact h

end Go.Proofs.Ytgjalicobalnaaa
