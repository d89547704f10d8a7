/- The walk of the statement WordBack over the loaded program: it answers true, and no memory that was there has turned. Conditions: texts no longer than may be, numbers in their kinds' bounds. -/
import Derived.Test.YtgjalicobalnaaaAlive01
import Derived.OpenShut
import Derived.Deep.QuietTactic
import Derived.BigQuiet
namespace Go.Proofs.Ytgjalicobalnaaa
open Go.RowKit

theorem mask8 (x : Nat) (hx : x < 18446744073709551616) : bits .and .u64 (x : Int) 255 = ((x % 256 : Nat) : Int) := by
  rw [u64_and _ _ (by omega) (by omega) (by omega) (by omega)]
  exact congrArg _ (nat_mask8 x)
theorem mask16 (x : Nat) (hx : x < 18446744073709551616) : bits .and .u64 (x : Int) 65535 = ((x % 65536 : Nat) : Int) := by
  rw [u64_and _ _ (by omega) (by omega) (by omega) (by omega)]
  exact congrArg _ (Nat.and_two_pow_sub_one_eq_mod x 16)
theorem mask32 (x : Nat) (hx : x < 18446744073709551616) : bits .and .u64 (x : Int) 4294967295 = ((x % 4294967296 : Nat) : Int) := by
  rw [u64_and _ _ (by omega) (by omega) (by omega) (by omega)]
  exact congrArg _ (Nat.and_two_pow_sub_one_eq_mod x 32)
theorem mask48 (x : Nat) (hx : x < 18446744073709551616) : bits .and .u64 (x : Int) 281474976710655 = ((x % 281474976710656 : Nat) : Int) := by
  rw [u64_and _ _ (by omega) (by omega) (by omega) (by omega)]
  exact congrArg _ (Nat.and_two_pow_sub_one_eq_mod x 48)

theorem mk_size (l : List UInt8) : (ByteArray.mk l.toArray).size = l.length := rfl
theorem mk_list (l : List UInt8) : (ByteArray.mk l.toArray).data.toList = l := List.toList_toArray ..
theorem setL_field (l : List UInt8) (k : Nat) (b : List UInt8) (h : k + b.length ≤ l.length) : ((setL l k b).drop k).take b.length = b := by
  unfold setL
  have hk : (l.take k).length = k := by rw [List.length_take]; omega
  rw [List.append_assoc, List.drop_append_of_le_length (by omega), List.drop_of_length_le (by omega), List.nil_append, List.take_left']
  rfl
theorem setL_take (l : List UInt8) (k : Nat) (b : List UInt8) (h : k + b.length ≤ l.length) : (setL l k b).take k = l.take k := by
  unfold setL
  have hk : (l.take k).length = k := by rw [List.length_take]; omega
  rw [List.append_assoc, List.take_left' hk]
theorem setL_drop (l : List UInt8) (k : Nat) (b : List UInt8) (h : k + b.length ≤ l.length) : (setL l k b).drop (k + b.length) = l.drop (k + b.length) := by
  unfold setL
  rw [List.drop_left' (by rw [List.length_append, List.length_take]; omega)]

theorem ok_facts (s : ByteArray) (k j x : Nat) (hs : s.size ≤ 4096) (h : k + j ≤ s.size) :
    ∃ t : ByteArray, t.size = s.size ∧ t.extract 0 k = s.extract 0 k ∧ t.extract (k + j) s.size = s.extract (k + j) s.size ∧
      (∀ w, Calls Try.prog 17 #[.string s, .int .i64 (k : Int), .string ⟨(ofB x j).toArray⟩] w fun e w' => e = .returned (.tuple #[.string t, .int .i64 0]) ∧ Below w.heap.size w w') ∧
      (∀ w, Calls Try.prog 12 #[.string t, .int .i64 (k : Int), .int .i64 (j : Int)] w fun e w' => e = .returned (.tuple #[.string ⟨(ofB x j).toArray⟩, .int .i64 0]) ∧ Below w.heap.size w w') ∧
      numAt t k j = x % 256 ^ j ∧ errAt t.size k j = 0 := by
  have hb : (ofB x j).length = j := ofB_length x j
  have hl : s.data.toList.length = s.size := (Lib.size_eq s).symm
  have hsz : (ByteArray.mk (setL s.data.toList k (ofB x j)).toArray).size = s.size := by rw [mk_size, setL_length _ _ _ (by omega), hl]
  have he : errAt (ByteArray.mk (setL s.data.toList k (ofB x j)).toArray).size k j = 0 := errAt_ok (by omega) (by omega) (by omega)
  have hf : field (ByteArray.mk (setL s.data.toList k (ofB x j)).toArray) k j = ofB x j := by
    have := setL_field s.data.toList k (ofB x j) (by omega)
    rw [hb] at this
    unfold field
    rw [mk_list]
    exact this
  refine ⟨⟨(setL s.data.toList k (ofB x j)).toArray⟩, hsz, ?_, ?_, ?_, ?_, ?_, he⟩
  · rw [Lib.extract_eq, Lib.extract_eq, mk_list, List.drop_zero, List.drop_zero, Nat.sub_zero, setL_take _ _ _ (by omega)]
  · have := setL_drop s.data.toList k (ofB x j) (by omega)
    rw [hb] at this
    rw [Lib.extract_eq, Lib.extract_eq, mk_list, this]
  · intro w
    have := set_ok s k ⟨(ofB x j).toArray⟩ w (by omega) (by rw [mk_size]; omega)
    rw [mk_list] at this
    exact this
  · intro w
    have := text_any ⟨(setL s.data.toList k (ofB x j)).toArray⟩ k j w (by omega) (by omega)
    rw [textAt_ok (by omega) (by omega) (by omega), extract_field (by omega) (by omega), hf, he] at this
    exact this
  · unfold numAt
    rw [if_pos he, hf, num_ofB]

theorem bad_set (s : ByteArray) (a : Int) (j x : Nat) (w : World) (hs : s.size ≤ 4096) (h1 : a < 0) :
    Calls Try.prog 17 #[.string s, .int .i64 a, .string ⟨(ofB x j).toArray⟩] w fun e w' => e = .returned (.tuple #[.string ⟨#[]⟩, .int .i64 2]) ∧ Below w.heap.size w w' := by
  have h := set_any s a ⟨(ofB x j).toArray⟩ w (by omega) (by omega)
  rw [setAt_no (by rw [errAt_arg (.inl h1)]; omega), errAt_arg (.inl h1)] at h
  exact h
theorem short_set (s : ByteArray) (k j x : Nat) (w : World) (hs : s.size ≤ 4096) (hk : k ≤ 9223372036854775807) (h1 : s.size < k + j) :
    Calls Try.prog 17 #[.string s, .int .i64 (k : Int), .string ⟨(ofB x j).toArray⟩] w fun e w' => e = .returned (.tuple #[.string ⟨#[]⟩, .int .i64 10]) ∧ Below w.heap.size w w' := by
  have h := set_any s k ⟨(ofB x j).toArray⟩ w (by omega) (by omega)
  have e : errAt s.size k (ByteArray.mk (ofB x j).toArray).size = 10 := by
    rw [mk_size (ofB x j), ofB_length]
    exact errAt_short (by omega) (by omega) (by omega)
  rw [setAt_no (by omega), e] at h
  exact h

set_option maxHeartbeats 400000 in
theorem back_long (s : ByteArray) (a x : Int) (w : World) (hs : s.size ≤ maxLen) (hl : 4096 < s.size) :
    Calls Try.prog 4 #[.string s, .int .i64 a, .int .u64 x] w fun e w' => e = .returned (.bool true) ∧ Below w.heap.size w w' := by
  unfold maxLen at hs
  go_enter Try.func4, Try.ntmps4
  go_wp2_with fail
  refine (alive_any _).mono ?_
  rintro e w1 ⟨rfl, hb1⟩
  go_wp2
  go_ret
  exact ⟨rfl, hb1⟩

theorem clip8_nat (j : Nat) (h : j ≤ 8) : clip8 (j : Int) = j := by
  unfold clip8
  split
  · omega
  · split <;> omega

theorem below2 {w W w1 w2 : World} (h : Below w.heap.size w W) (h1 : Below W.heap.size W w1) (h2 : Below w1.heap.size w1 w2) : Below w.heap.size w w2 :=
  (h.trans (h1.mono h.size)).trans (h2.mono (Nat.le_trans h.size h1.size))

set_option maxHeartbeats 1000000 in
set_option maxRecDepth 100000 in
theorem back_neg (s : ByteArray) (a : Int) (x : Nat) (w : World) (hs : s.size ≤ 4096) (hx : x < 18446744073709551616) (ha : a < 0) :
    Calls Try.prog 4 #[.string s, .int .i64 a, .int .u64 (x : Int)] w fun e w' => e = .returned (.bool true) ∧ Below w.heap.size w w' := by
  go_enter Try.func4, Try.ntmps4
  go_wp2
  go_loopw [7] (fun n W => ∃ j : Nat, 1 ≤ j ∧ j ≤ 7 ∧ n = .int .i64 (j : Int) ∧ Below w.heap.size w W) (fun n _ => 7 - (intOf n).toNat)
  case atStart => exact ⟨1, by omega, by omega, rfl, Below.refl _ _⟩
  case round =>
    obtain ⟨j, h1, h2, rfl, hW⟩ := hrel
    by_cases hj : j ≤ 6
    · have O := hide (fun w => of_any x j w hx)
      rw [clip8_nat j (by omega)] at O
      go_wp2_with fail
      refine (unhide O _).mono ?_
      rintro e w1 ⟨rfl, hb1⟩
      go_wp2_with fail
      refine (bad_set s a j x _ hs ha).mono ?_
      rintro e w2 ⟨rfl, hb2⟩
      go_wp2
      go_roundw
      case rel => exact ⟨j + 1, by omega, by omega, by go_num, below2 hW hb1 hb2⟩
      case measure => simp [intOf]; omega
    · go_wp2_with fail
      refine (alive_any _).mono ?_
      rintro e w1 ⟨rfl, hb1⟩
      go_wp2
      go_ret
      exact ⟨rfl, hW.trans (hb1.mono hW.size)⟩

end Go.Proofs.Ytgjalicobalnaaa
