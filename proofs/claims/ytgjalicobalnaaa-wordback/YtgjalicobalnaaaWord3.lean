/- The contracts of word.Text, Rest, Of and Set, over the loaded program: what each call answers, for every input; no memory that was there has turned. Conditions: numbers in their kinds' bounds, texts of at most 2 to the power of 48 bytes. -/
import Derived.Test.YtgjalicobalnaaaWord2
namespace Go.Proofs.Ytgjalicobalnaaa
open Go.RowKit

theorem hide {p : Prop} (h : p) : Hid p := h
theorem unhide {p : Prop} (h : Hid p) : p := h

theorem textAt_ok {s : ByteArray} {a n : Int} (h1 : 0 ≤ a) (h2 : 0 ≤ n) (h : n ≤ (s.size : Int) - a) : textAt s a n = s.extract a.toNat (a + n).toNat := by unfold textAt; rw [errAt_ok h1 h2 h, if_pos rfl]
theorem textAt_no {s : ByteArray} {a n : Int} (h : errAt s.size a n ≠ 0) : textAt s a n = ⟨#[]⟩ := by unfold textAt; rw [if_neg h]

set_option maxHeartbeats 400000 in
theorem text_any (s : ByteArray) (a n : Int) (w : World) (hs : s.size ≤ 281474976710656) (ha : a ≤ 9223372036854775807) :
    Calls Try.prog 12 #[.string s, .int .i64 a, .int .i64 n] w fun e w' => e = .returned (.tuple #[.string (textAt s a n), .int .i64 (errAt s.size a n)]) ∧ Below w.heap.size w w' := by
  have hm : s.size ≤ maxLen := by unfold maxLen; omega
  rcases errAt_cases s.size a n with ⟨h, he⟩ | ⟨h1, h2, h3, he⟩ | ⟨h1, h2, h3, he⟩
  · rw [textAt_no (by omega), he]
    clear he
    go_enter Try.func12, Try.ntmps12
    go_wp2_with fail
    refine (check_arg s a n _ h).mono ?_
    rintro e w' ⟨rfl, rfl⟩
    go_wp2
    go_ret2
    exact ⟨rfl, Below.refl _ _⟩
  · rw [textAt_no (by omega), he]
    clear he
    go_enter Try.func12, Try.ntmps12
    go_wp2_with fail
    refine (check_short s a n _ hm h1 h2 ha h3).mono ?_
    rintro e w' ⟨rfl, rfl⟩
    go_wp2
    go_ret2
    exact ⟨rfl, Below.refl _ _⟩
  · rw [textAt_ok h1 h2 h3, he]
    clear he
    go_enter Try.func12, Try.ntmps12
    go_wp2_with fail
    refine (check_ok s a n _ hm h1 h2 h3).mono ?_
    rintro e w' ⟨rfl, rfl⟩
    go_wp2_with fail
    refine (clone_any (s.extract a.toNat (a + n).toNat) _ (by simp [ByteArray.size_extract]; omega)).mono ?_
    rintro e w1 ⟨rfl, hb⟩
    go_wp2
    go_ret2
    exact ⟨rfl, hb⟩

theorem text_arg (s : ByteArray) (a n : Int) (w : World) (hs : s.size ≤ 281474976710656) (ha : a < 0) :
    Calls Try.prog 12 #[.string s, .int .i64 a, .int .i64 n] w fun e w' => e = .returned (.tuple #[.string ⟨#[]⟩, .int .i64 2]) ∧ Below w.heap.size w w' := by
  have h := text_any s a n w hs (by omega)
  rw [textAt_no (by rw [errAt_arg (.inl ha)]; omega), errAt_arg (.inl ha)] at h
  exact h

def errRest (size : Nat) (a : Int) : Int := if a < 0 then 2 else if (size : Int) < a then 10 else 0
def restAt (s : ByteArray) (a : Int) : ByteArray := if errRest s.size a = 0 then s.extract a.toNat s.size else ⟨#[]⟩
theorem errRest_cases (size : Nat) (a : Int) : (a < 0 ∧ errRest size a = 2) ∨ (0 ≤ a ∧ (size : Int) < a ∧ errRest size a = 10) ∨ (0 ≤ a ∧ a ≤ (size : Int) ∧ errRest size a = 0) := by
  unfold errRest
  by_cases h : a < 0
  · exact .inl ⟨h, if_pos h⟩
  · by_cases h2 : (size : Int) < a
    · exact .inr (.inl ⟨by omega, h2, by rw [if_neg h, if_pos h2]⟩)
    · exact .inr (.inr ⟨by omega, by omega, by rw [if_neg h, if_neg h2]⟩)

set_option maxHeartbeats 400000 in
theorem rest_any (s : ByteArray) (a : Int) (w : World) (hs : s.size ≤ 281474976710656) (ha : a ≤ 9223372036854775807) :
    Calls Try.prog 14 #[.string s, .int .i64 a] w fun e w' => e = .returned (.tuple #[.string (restAt s a), .int .i64 (errRest s.size a)]) ∧ Below w.heap.size w w' := by
  rcases errRest_cases s.size a with ⟨h, he⟩ | ⟨h1, h2, he⟩ | ⟨h1, h2, he⟩
  · have hr : restAt s a = ⟨#[]⟩ := by unfold restAt; rw [he]; rfl
    rw [he, hr]
    clear he hr
    by_cases hm : wrap64 ((s.size : Int) - a) < 0
    · go_enter Try.func14, Try.ntmps14
      go_wp2_with fail
      refine (text_arg s a _ _ hs h).mono ?_
      rintro e w' ⟨rfl, hb⟩
      go_wp2
      go_ret2
      exact ⟨rfl, hb⟩
    · go_enter Try.func14, Try.ntmps14
      go_wp2_with fail
      refine (text_arg s a _ _ hs h).mono ?_
      rintro e w' ⟨rfl, hb⟩
      go_wp2
      go_ret2
      exact ⟨rfl, hb⟩
  · have hr : restAt s a = ⟨#[]⟩ := by unfold restAt; rw [he]; rfl
    rw [he, hr]
    clear he hr
    have hc := fun w => text_any s a 0 w hs ha
    have h10 : errAt s.size a 0 = 10 := errAt_short h1 (by omega) (by omega)
    rw [textAt_no (by omega), h10] at hc
    clear h10
    have h3 : (s.size : Int) - a < 0 := by omega
    have HC := hide hc
    clear hc
    go_enter Try.func14, Try.ntmps14
    go_wp2_with fail
    refine (unhide HC _).mono ?_
    rintro e w' ⟨rfl, hb⟩
    go_wp2
    go_ret2
    exact ⟨rfl, hb⟩
  · have hr : restAt s a = s.extract a.toNat s.size := by unfold restAt; rw [he]; rfl
    rw [he, hr]
    clear he hr
    have hc := fun w => text_any s a ((s.size : Int) - a) w hs ha
    rw [textAt_ok h1 (by omega) (by omega), errAt_ok h1 (by omega) (by omega), show (a + ((s.size : Int) - a)).toNat = s.size from by omega] at hc
    have h3 : 0 ≤ (s.size : Int) - a := by omega
    have HC := hide hc
    clear hc
    go_enter Try.func14, Try.ntmps14
    go_wp2_with fail
    refine (unhide HC _).mono ?_
    rintro e w' ⟨rfl, hb⟩
    go_wp2
    go_ret2
    exact ⟨rfl, hb⟩

end Go.Proofs.Ytgjalicobalnaaa
