/- The contracts of sum.Add, Of, Right and Turn, over the loaded program; no memory that was there has turned. Conditions: texts of together at most 2 to the power of 40 bytes, numbers in their kinds' bounds. -/
import Derived.Test.YtjkoppjikplkeaaSumK
namespace Go.Proofs.Ytjkoppjikplkeaa
open Go.RowKit Go.Shelf

def sAdd (L : List ByteArray) : Nat := red (S (cat L))

theorem add_le (L : List ByteArray) : sAdd L ≤ 65535 := red_le _

set_option maxHeartbeats 1000000 in
theorem add_any (L : List ByteArray) (sv : Value) (w : World) (hL : (cat L).length ≤ 1099511627776) (hlen : L.length ≤ 1099511627776) (hI : Strs w.heap.size w sv L) :
    Calls Try.prog 69 #[sv] w fun e w' => e = .returned (.int .u16 (sAdd L : Nat)) ∧ Below w.heap.size w w' := by
  obtain ⟨a, len, cap, rfl⟩ := hI.slice
  have HW := hide (callsIn_wide.1 (words_in a len cap w 3))
  have hB0 : Below w.heap.size w (w.alloc (.cells #[.slice a len cap] 100)) := (Below.refl _ w).alloc (Nat.le_refl _) _
  have bS := Boxed.new w 100 (.slice a len cap)
  have HT := hide (callsIn_wide.1 (total_in 97 #[.pointer (some ⟨w.heap.size, 0, none⟩)] ((cat L).length / 2 + 1) (S (cat L)) w.heap.size (w.alloc (.cells #[.slice a len cap] 100)) (enters_of Try.func97 (by kernel_rfl) rfl) (by simp) (by omega)
    (words_stops (3 - 1) (by omega) w.heap.size w.heap.size _ L hL hlen _ (by simp) (by simp) bS.cell (hI.below hB0))))
  clear hI bS
  go_enter Try.func69, Try.ntmps69
  go_wp2_with fail
  refine (unhide HW).mono ?_
  rintro e w' ⟨rfl, rfl⟩
  go_wp2_with fail
  refine (unhide HT).mono ?_
  rintro e w1 ⟨rfl, hb⟩
  go_wp2
  go_ret
  exact ⟨rfl, hB0.trans (hb.mono (by simp))⟩

set_option maxHeartbeats 400000 in
theorem of_sum (L : List ByteArray) (sv : Value) (w : World) (hL : (cat L).length ≤ 1099511627776) (hlen : L.length ≤ 1099511627776) (hI : Strs w.heap.size w sv L) :
    Calls Try.prog 35 #[sv] w fun e w' => e = .returned (.int .u16 ((65535 - sAdd L : Nat) : Int)) ∧ Below w.heap.size w w' := by
  have hle := add_le L
  have HA := hide (add_any L sv w hL hlen hI)
  clear hI
  generalize sAdd L = y at *
  go_enter Try.func35, Try.ntmps35
  go_wp2_with fail
  refine (unhide HA).mono ?_
  rintro e w1 ⟨rfl, hb⟩
  go_wp2
  go_ret
  refine ⟨?_, hb⟩
  show Ending.returned (.int .u16 _) = Ending.returned (.int .u16 _)
  congr 2
  omega

set_option maxHeartbeats 400000 in
theorem right_any (L : List ByteArray) (sv : Value) (w : World) (hL : (cat L).length ≤ 1099511627776) (hlen : L.length ≤ 1099511627776) (hI : Strs w.heap.size w sv L) :
    Calls Try.prog 41 #[sv] w fun e w' => e = .returned (.bool (decide (sAdd L = 65535))) ∧ Below w.heap.size w w' := by
  have HA := hide (add_any L sv w hL hlen hI)
  clear hI
  generalize sAdd L = y at *
  go_enter Try.func41, Try.ntmps41
  go_wp2_with fail
  refine (unhide HA).mono ?_
  rintro e w1 ⟨rfl, hb⟩
  go_wp2
  go_ret
  refine ⟨?_, hb⟩
  show Ending.returned (.bool _) = Ending.returned (.bool _)
  congr 2
  rw [Bool.eq_iff_iff]
  simp
  omega

def turn (c a b : Nat) : Nat := 65535 - red ((65535 - c) + (65535 - a) + b)

theorem turn_le (c a b : Nat) : turn c a b ≤ 65535 := by unfold turn; omega

def three (x y z : W16) (j : Nat) : W16 := if j = 0 then x else if j = 1 then y else z

theorem three_sum (x y z : W16) : sumW (upto (three x y z) 3) = x.1 + y.1 + z.1 := by simp [upto, three, sumW, List.range_succ]; omega

set_option maxHeartbeats 1000000 in
theorem turn_any (c a b : Nat) (w : World) (hc : c < 65536) (ha : a < 65536) (hb : b < 65536) :
    Calls Try.prog 65 #[.int .u16 (c : Int), .int .u16 (a : Int), .int .u16 (b : Int)] w fun e w' => e = .returned (.int .u16 (turn c a b : Nat)) ∧ Below w.heap.size w w' := by
  have e1 : (65535 : Int) - (c : Int) = ((65535 - c : Nat) : Int) := by omega
  have e2 : (65535 : Int) - (a : Int) = ((65535 - a : Nat) : Int) := by omega
  obtain ⟨W1, hW1⟩ : ∃ W1, w.alloc (.cells #[.int .u16 ((65535 - c : Nat) : Int), .int .u16 ((65535 - a : Nat) : Int), .int .u16 (b : Int)] 22) = W1 := ⟨_, rfl⟩
  have hs1 : W1.heap.size = w.heap.size + 1 := by rw [← hW1]; simp
  have hB1 : Below w.heap.size w W1 := by rw [← hW1]; exact (Below.refl _ w).alloc (Nat.le_refl _) _
  have hc1 : ∀ j, j < 3 → W1.cell? ⟨w.heap.size, 0 + j, none⟩ = some (.int .u16 ((three ⟨65535 - c, by omega⟩ ⟨65535 - a, by omega⟩ ⟨b, hb⟩ j).1 : Int)) := by
    intro j hj
    rw [← hW1]
    simp only [World.cell?]
    rw [heap_alloc_new]
    rcases (by omega : j = 0 ∨ j = 1 ∨ j = 2) with h | h | h <;> subst h <;> rfl
  have hB2 : Below W1.heap.size W1 (W1.alloc (.cells #[.slice (some ⟨w.heap.size, 0, none⟩) 3 3] 118)) := (Below.refl _ W1).alloc (Nat.le_refl _) _
  have bS := Boxed.new W1 118 (.slice (some ⟨w.heap.size, 0, none⟩) 3 3)
  have HV := hide (callsIn_wide.1 (values_in (some ⟨w.heap.size, 0, none⟩) 3 3 W1 3))
  have ht := callsIn_wide.1 (total_in 96 #[.pointer (some ⟨W1.heap.size, 0, none⟩)] 3 (sumW (upto (three ⟨65535 - c, by omega⟩ ⟨65535 - a, by omega⟩ ⟨b, hb⟩) 3)) W1.heap.size (W1.alloc (.cells #[.slice (some ⟨w.heap.size, 0, none⟩) 3 3] 118)) (enters_of Try.func96 (by kernel_rfl) rfl) (by simp) (by omega)
    (values_stops (3 - 1) (by omega) W1.heap.size W1.heap.size w.heap.size 0 3 3 _ (by omega) (by omega) _ (by simp) (by simp) bS.cell (fun j hj => (hB2.cell (p := ⟨w.heap.size, 0 + j, none⟩) (by show w.heap.size < _; omega)).trans (hc1 j hj))))
  rw [three_sum] at ht
  have HT := hide ht
  have HS := hide hs1
  clear ht hc1 bS hs1
  have HE := hide (show turn c a b = 65535 - red ((65535 - c) + (65535 - a) + b) from rfl)
  have hle := red_le ((65535 - c) + (65535 - a) + b)
  generalize red ((65535 - c) + (65535 - a) + b) = r at *
  generalize turn c a b = t at *
  have e3 : (65535 : Int) - (r : Int) = ((65535 - r : Nat) : Int) := by omega
  go_enter Try.func65, Try.ntmps65
  go_wp2_with fail
  refine (unhide HV).mono ?_
  rintro e w' ⟨rfl, rfl⟩
  go_wp2_with fail
  refine (unhide HT).mono ?_
  rintro e w1 ⟨rfl, hb1⟩
  go_wp2
  go_ret
  refine ⟨?_, hB1.trans ((hB2.trans (hb1.mono (by simp))).mono (by rw [unhide HS]; omega))⟩
  show Ending.returned (.int .u16 _) = Ending.returned (.int .u16 _)
  rw [unhide HE]

theorem str_append (a b : List UInt8) : (⟨a.toArray⟩ : ByteArray) ++ (⟨b.toArray⟩ : ByteArray) = ⟨(a ++ b).toArray⟩ := by
  rw [ByteArray.ext_iff]; simp

end Go.Proofs.Ytjkoppjikplkeaa
