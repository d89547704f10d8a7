/- The contracts of the document's answer for layer 1 (Num, Text, Rest) and of the statements' helper cut, over the loaded program. Conditions: fields of at most 6 bytes, numbers in their kinds' bounds, texts of at most 2 to the power of 48 bytes. -/
import Derived.Test.YtgjalicobalnaaaWord5
namespace Go.Proofs.Ytgjalicobalnaaa
open Go.RowKit

theorem field_succ (s : ByteArray) (k j : Nat) (h : k + j < s.size) : field s (k : Int) ((j + 1 : Nat) : Int) = field s (k : Int) (j : Int) ++ [s[k + j]] := by
  unfold field
  have hl : k + j < s.data.toList.length := by rw [← Lib.size_eq]; exact h
  have hj : j < (s.data.toList.drop k).length := by rw [List.length_drop]; omega
  simp only [Int.toNat_natCast]
  rw [List.take_succ_eq_append_getElem hj, List.getElem_drop]
  rfl

theorem num_field_lt (s : ByteArray) (k j : Nat) : num (field s (k : Int) (j : Int)) < 256 ^ j := by
  have h := num_lt (field s (k : Int) (j : Int))
  have hl : (field s (k : Int) (j : Int)).length ≤ j := by unfold field; rw [List.length_take]; omega
  exact Nat.lt_of_lt_of_le h (Nat.pow_le_pow_right (by omega) hl)

theorem u64_step {x y c : Nat} (h : Hid (y = 256 * x + c)) :
    Value.int .u64 (256 * (x : Int) + (c : Int)) = Value.int .u64 (y : Int) := by
  rw [unhide h]
  congr 1

set_option maxHeartbeats 400000 in
theorem Num_ok (s : ByteArray) (k n : Nat) (w : World) (hs : s.size ≤ maxLen) (hn : n ≤ 6) (h : k + n ≤ s.size) :
    Calls Try.prog 8 #[.string s, .int .i64 (k : Int), .int .i64 (n : Int)] w fun e w' => e = .returned (.tuple #[.int .u64 (num (field s k n) : Nat), .int .i64 0]) ∧ w' = w := by
  unfold maxLen at hs
  have g1 : decide (s.size < k) = false := decide_eq_false (by omega)
  have g2 : decide ((s.size : Int) - (k : Int) < (n : Int)) = false := decide_eq_false (by omega)
  go_enter Try.func8, Try.ntmps8
  go_wp2
  go_loop [8, 9] (fun x i => ∃ j : Nat, j ≤ n ∧ i = .int .i64 (j : Int) ∧ x = .int .u64 (num (field s k j) : Nat)) (fun _ i => n - (intOf i).toNat)
  case atStart => exact ⟨0, Nat.zero_le _, rfl, rfl⟩
  case round =>
    obtain ⟨j, hj, rfl, rfl⟩ := hrel
    have hlt := num_field_lt s k j
    have hp : 256 ^ j ≤ 256 ^ 6 := Nat.pow_le_pow_right (by omega) (by omega)
    have hq : num (field s k j) < 281474976710656 := by simp at hp; omega
    clear hlt hp
    by_cases hl : j < n
    · have hx := field_succ s k j (by omega)
      have HX := hide (show num (field s k ((j + 1 : Nat) : Int)) = 256 * num (field s k j) + (s[k + j]).toNat by rw [hx, num_snoc])
      clear hx
      have hc := (s[k + j]).toNat_lt
      go_wp2
      go_round
      case rel => exact ⟨j + 1, by omega, by go_num, u64_step HX⟩
      case measure => simp [intOf]; omega
    · go_wp2
      go_ret2
      have e : j = n := by omega
      subst e
      exact ⟨rfl, rfl⟩

set_option maxHeartbeats 400000 in
theorem Num_any (s : ByteArray) (a : Int) (n : Nat) (w : World) (hs : s.size ≤ maxLen) (hn : n ≤ 6) (ha : a ≤ 9223372036854775807) :
    Calls Try.prog 8 #[.string s, .int .i64 a, .int .i64 (n : Int)] w fun e w' => e = .returned (.tuple #[.int .u64 (numAt s a n : Nat), .int .i64 (errAt s.size a n)]) ∧ w' = w := by
  rcases errAt_cases s.size a n with ⟨h, he⟩ | ⟨h1, h2, h3, he⟩ | ⟨h1, h2, h3, he⟩
  · have hz : numAt s a n = 0 := by unfold numAt; rw [he]; rfl
    rw [he, hz]
    clear he hz
    have h' : a < 0 := by omega
    unfold maxLen at hs
    go_enter Try.func8, Try.ntmps8
    go_wp2
    go_ret2
    exact ⟨rfl, rfl⟩
  · have hz : numAt s a n = 0 := by unfold numAt; rw [he]; rfl
    rw [he, hz]
    clear he hz
    unfold maxLen at hs
    by_cases hk : (s.size : Int) < a
    · go_enter Try.func8, Try.ntmps8
      go_wp2
      go_ret2
      exact ⟨rfl, rfl⟩
    · go_enter Try.func8, Try.ntmps8
      go_wp2
      go_ret2
      exact ⟨rfl, rfl⟩
  · have hz : numAt s a n = num (field s a n) := by unfold numAt; rw [he]; rfl
    rw [he, hz]
    have h := Num_ok s a.toNat n w hs hn (by omega)
    rw [show ((a.toNat : Nat) : Int) = a from by omega] at h
    exact h

theorem errAt_zero (size : Nat) (a : Int) : errAt size a (0 : Nat) = errRest size a := by
  unfold errAt errRest
  by_cases h : a < 0
  · rw [if_pos (.inl h), if_pos h]
  · rw [if_neg (by omega), if_neg h]
    by_cases h2 : (size : Int) < a
    · rw [if_pos (by omega), if_pos h2]
    · rw [if_neg (by omega), if_neg h2]

theorem Num0_any (s : ByteArray) (a : Int) (w : World) (hs : s.size ≤ maxLen) (ha : a ≤ 9223372036854775807) :
    Calls Try.prog 8 #[.string s, .int .i64 a, .int .i64 0] w fun e w' => e = .returned (.tuple #[.int .u64 (numAt s a (0 : Nat) : Nat), .int .i64 (errRest s.size a)]) ∧ w' = w := by
  have h := Num_any s a 0 w hs (by omega) ha
  rw [errAt_zero] at h
  exact h

set_option maxHeartbeats 400000 in
theorem Rest_any (s : ByteArray) (a : Int) (w : World) (hs : s.size ≤ maxLen) (ha : a ≤ 9223372036854775807) :
    Calls Try.prog 15 #[.string s, .int .i64 a] w fun e w' => e = .returned (.tuple #[.string (restAt s a), .int .i64 (errRest s.size a)]) ∧ w' = w := by
  have hc := Num0_any s a w hs ha
  rcases errRest_cases s.size a with ⟨h, he⟩ | ⟨h1, h2, he⟩ | ⟨h1, h2, he⟩
  · have hr : restAt s a = ⟨#[]⟩ := by unfold restAt; rw [he]; rfl
    rw [he] at hc
    rw [he, hr]
    clear he hr
    have HC := hide hc
    clear hc
    go_enter Try.func15, Try.ntmps15
    go_wp2_with fail
    refine (unhide HC).mono ?_
    rintro e w' ⟨rfl, rfl⟩
    go_wp2
    go_ret2
    exact ⟨rfl, rfl⟩
  · have hr : restAt s a = ⟨#[]⟩ := by unfold restAt; rw [he]; rfl
    rw [he] at hc
    rw [he, hr]
    clear he hr
    have HC := hide hc
    clear hc
    go_enter Try.func15, Try.ntmps15
    go_wp2_with fail
    refine (unhide HC).mono ?_
    rintro e w' ⟨rfl, rfl⟩
    go_wp2
    go_ret2
    exact ⟨rfl, rfl⟩
  · have hr : restAt s a = s.extract a.toNat s.size := by unfold restAt; rw [he]; rfl
    rw [he] at hc
    rw [he, hr]
    clear he hr
    have HC := hide hc
    clear hc
    unfold maxLen at hs
    go_enter Try.func15, Try.ntmps15
    go_wp2_with fail
    refine (unhide HC).mono ?_
    rintro e w' ⟨rfl, rfl⟩
    go_wp2
    go_ret2
    exact ⟨rfl, rfl⟩

set_option maxHeartbeats 400000 in
theorem Text_any (s : ByteArray) (a n : Int) (w : World) (hs : s.size ≤ maxLen) (ha : a ≤ 9223372036854775807) :
    Calls Try.prog 13 #[.string s, .int .i64 a, .int .i64 n] w fun e w' => e = .returned (.tuple #[.string (textAt s a n), .int .i64 (errAt s.size a n)]) ∧ w' = w := by
  have hc := Num0_any s a w hs ha
  by_cases hn : n < 0
  · have he : errAt s.size a n = 2 := errAt_arg (.inr hn)
    rw [textAt_no (by omega), he]
    clear he
    have HC := hide hc
    clear hc
    go_enter Try.func13, Try.ntmps13
    go_wp2_with fail
    refine (unhide HC).mono ?_
    rintro e w' ⟨rfl, rfl⟩
    go_wp2
    go_ret2
    exact ⟨rfl, rfl⟩
  · rcases errRest_cases s.size a with ⟨h, he⟩ | ⟨h1, h2, he⟩ | ⟨h1, h2, he⟩
    · have hr : errAt s.size a n = 2 := errAt_arg (.inl h)
      rw [he] at hc
      rw [textAt_no (by omega), hr]
      clear he hr
      have HC := hide hc
      clear hc
      go_enter Try.func13, Try.ntmps13
      go_wp2_with fail
      refine (unhide HC).mono ?_
      rintro e w' ⟨rfl, rfl⟩
      go_wp2
      go_ret2
      exact ⟨rfl, rfl⟩
    · have hr : errAt s.size a n = 10 := errAt_short h1 (by omega) (by omega)
      rw [he] at hc
      rw [textAt_no (by omega), hr]
      clear he hr
      have HC := hide hc
      clear hc
      go_enter Try.func13, Try.ntmps13
      go_wp2_with fail
      refine (unhide HC).mono ?_
      rintro e w' ⟨rfl, rfl⟩
      go_wp2
      go_ret2
      exact ⟨rfl, rfl⟩
    · rw [he] at hc
      clear he
      have HC := hide hc
      clear hc
      unfold maxLen at hs
      by_cases hl : (s.size : Int) - a < n
      · have hr : errAt s.size a n = 10 := errAt_short h1 (by omega) (by omega)
        rw [textAt_no (by omega), hr]
        clear hr
        go_enter Try.func13, Try.ntmps13
        go_wp2_with fail
        refine (unhide HC).mono ?_
        rintro e w' ⟨rfl, rfl⟩
        go_wp2
        go_ret2
        exact ⟨rfl, rfl⟩
      · rw [textAt_ok h1 (by omega) (by omega), errAt_ok h1 (by omega) (by omega)]
        go_enter Try.func13, Try.ntmps13
        go_wp2_with fail
        refine (unhide HC).mono ?_
        rintro e w' ⟨rfl, rfl⟩
        go_wp2
        go_ret2
        exact ⟨rfl, rfl⟩

end Go.Proofs.Ytgjalicobalnaaa
