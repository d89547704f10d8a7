/- The contracts of sum.Add, Of, Right and Turn, over the loaded program; no memory that was there has turned. Conditions: texts of together at most 2 to the power of 40 bytes, numbers in their kinds' bounds. -/
import Derived.Test.YtekljiakofmhnaaSumK
namespace Go.Proofs.Ytekljiakofmhnaa
open Go.RowKit Go.Shelf

def sAdd (L : List ByteArray) : Nat := red (S (cat L))

theorem add_le (L : List ByteArray) : sAdd L ≤ 65535 := red_le _

set_option maxHeartbeats 1000000 in
theorem add_any (L : List ByteArray) (sv : Value) (w : World) (hL : (cat L).length ≤ 1099511627776) (hlen : L.length ≤ 1099511627776) (hI : Strs w.heap.size w sv L) :
    Calls Try.prog 52 #[sv] w fun e w' => e = .returned (.int .u16 (sAdd L : Nat)) ∧ Below w.heap.size w w' := by
  obtain ⟨a, len, cap, rfl⟩ := hI.slice
  have HW := hide (callsIn_wide.1 (words_in a len cap w 3))
  have hB0 : Below w.heap.size w (w.alloc (.cells #[.slice a len cap] 100)) := (Below.refl _ w).alloc (Nat.le_refl _) _
  have bS := Boxed.new w 100 (.slice a len cap)
  have HT := hide (callsIn_wide.1 (total_in 70 #[.pointer (some ⟨w.heap.size, 0, none⟩)] ((cat L).length / 2 + 1) (S (cat L)) w.heap.size (w.alloc (.cells #[.slice a len cap] 100)) (enters_of Try.func70 (by kernel_rfl) rfl) (by simp) (by omega)
    (words_stops (3 - 1) (by omega) w.heap.size w.heap.size _ L hL hlen _ (by simp) (by simp) bS.cell (hI.below hB0))))
  clear hI bS
  go_enter Try.func52, Try.ntmps52
  go_wp2_with fail
  refine (unhide HW).mono ?_
  rintro e w' ⟨rfl, rfl⟩
  go_wp2_with fail
  refine (unhide HT).mono ?_
  rintro e w1 ⟨rfl, hb⟩
  go_wp2
  go_ret
  exact ⟨rfl, hB0.trans (hb.mono (by simp))⟩

set_option maxHeartbeats 400000 in
theorem of_sum (L : List ByteArray) (sv : Value) (w : World) (hL : (cat L).length ≤ 1099511627776) (hlen : L.length ≤ 1099511627776) (hI : Strs w.heap.size w sv L) :
    Calls Try.prog 40 #[sv] w fun e w' => e = .returned (.int .u16 ((65535 - sAdd L : Nat) : Int)) ∧ Below w.heap.size w w' := by
  have hle := add_le L
  have HA := hide (add_any L sv w hL hlen hI)
  clear hI
  generalize sAdd L = y at *
  go_enter Try.func40, Try.ntmps40
  go_wp2_with fail
  refine (unhide HA).mono ?_
  rintro e w1 ⟨rfl, hb⟩
  go_wp2
  go_ret
  refine ⟨?_, hb⟩
  show Ending.returned (.int .u16 _) = Ending.returned (.int .u16 _)
  congr 2
  omega

def turn (c a b : Nat) : Nat := 65535 - red ((65535 - c) + (65535 - a) + b)

theorem turn_le (c a b : Nat) : turn c a b ≤ 65535 := by unfold turn; omega

def three (x y z : W16) (j : Nat) : W16 := if j = 0 then x else if j = 1 then y else z

theorem three_sum (x y z : W16) : sumW (upto (three x y z) 3) = x.1 + y.1 + z.1 := by simp [upto, three, sumW, List.range_succ]; omega

theorem str_append (a b : List UInt8) : (⟨a.toArray⟩ : ByteArray) ++ (⟨b.toArray⟩ : ByteArray) = ⟨(a ++ b).toArray⟩ := by
  rw [ByteArray.ext_iff]; simp

end Go.Proofs.Ytekljiakofmhnaa
