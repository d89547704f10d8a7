/- The contracts of package seq once more, over integers as a walk spells them: of two numbers their difference is told outright. Conditions: numbers in their kinds' bounds, the difference right modulo 2 to the power of 32. -/
import Derived.Test.YtbohnkcmaelmkaaSeq
namespace Go.Proofs.Ytbohnkcmaelmkaa
open Go.RowKit

theorem behind_of (u v : Nat) (r : Int) (hu : u < 4294967296) (hr : -2147483648 ≤ r) (hr2 : r ≤ 2147483647) (h : ((v : Int) - (u : Int) - r) % 4294967296 = 0) : behind u v = r := by
  unfold behind dist
  split <;> omega
theorem inW_of (x f n : Nat) (d : Int) (hf : f < 4294967296) (hd : 0 ≤ d) (hd2 : d < 4294967296) (h : ((x : Int) - (f : Int) - d) % 4294967296 = 0) : inW x f n = decide (d < (n : Int)) := by
  unfold inW dist
  exact decide_eq_decide.2 (by omega)

theorem behind_at (u v r : Int) (w : World) (hu : 0 ≤ u) (hu2 : u < 4294967296) (hv : 0 ≤ v) (hv2 : v < 4294967296) (hr : -2147483648 ≤ r) (hr2 : r ≤ 2147483647) (h : (v - u - r) % 4294967296 = 0) :
    Calls Try.prog 9 #[.int .u32 u, .int .u32 v] w fun e w' => e = .returned (.int .i64 r) ∧ w' = w := by
  obtain ⟨u, rfl⟩ := Int.eq_ofNat_of_zero_le hu
  obtain ⟨v, rfl⟩ := Int.eq_ofNat_of_zero_le hv
  have k := behind_any u v w (by omega) (by omega)
  rw [behind_of u v r (by omega) hr hr2 h] at k
  exact k
theorem less_at (u v r : Int) (w : World) (hu : 0 ≤ u) (hu2 : u < 4294967296) (hv : 0 ≤ v) (hv2 : v < 4294967296) (hr : -2147483648 ≤ r) (hr2 : r ≤ 2147483647) (h : (v - u - r) % 4294967296 = 0) :
    Calls Try.prog 7 #[.int .u32 u, .int .u32 v] w fun e w' => e = .returned (.bool (decide (0 < r))) ∧ w' = w := by
  obtain ⟨u, rfl⟩ := Int.eq_ofNat_of_zero_le hu
  obtain ⟨v, rfl⟩ := Int.eq_ofNat_of_zero_le hv
  have k := less_any u v w (by omega) (by omega)
  unfold less at k
  rw [behind_of u v r (by omega) hr hr2 h] at k
  exact k
theorem max_at (u v r m : Int) (w : World) (hu : 0 ≤ u) (hu2 : u < 4294967296) (hv : 0 ≤ v) (hv2 : v < 4294967296) (hr : -2147483648 ≤ r) (hr2 : r ≤ 2147483647) (h : (v - u - r) % 4294967296 = 0)
    (hm : (0 < r ∧ m = v) ∨ (r ≤ 0 ∧ m = u)) :
    Calls Try.prog 13 #[.int .u32 u, .int .u32 v] w fun e w' => e = .returned (.int .u32 m) ∧ w' = w := by
  obtain ⟨u, rfl⟩ := Int.eq_ofNat_of_zero_le hu
  obtain ⟨v, rfl⟩ := Int.eq_ofNat_of_zero_le hv
  have k := max_any u v w (by omega) (by omega)
  unfold most less at k
  rw [behind_of u v r (by omega) hr hr2 h] at k
  rcases hm with ⟨h1, rfl⟩ | ⟨h1, rfl⟩
  · rw [decide_eq_true h1] at k
    exact k
  · rw [decide_eq_false (by omega)] at k
    exact k
theorem in_at (x f n d : Int) (w : World) (hx : 0 ≤ x) (hx2 : x < 4294967296) (hf : 0 ≤ f) (hf2 : f < 4294967296) (hn : 0 ≤ n) (hn2 : n < 4294967296) (hd : 0 ≤ d) (hd2 : d < 4294967296) (h : (x - f - d) % 4294967296 = 0) :
    Calls Try.prog 11 #[.int .u32 x, .int .u32 f, .int .u32 n] w fun e w' => e = .returned (.bool (decide (d < n))) ∧ Below w.heap.size w w' := by
  obtain ⟨x, rfl⟩ := Int.eq_ofNat_of_zero_le hx
  obtain ⟨f, rfl⟩ := Int.eq_ofNat_of_zero_le hf
  obtain ⟨n, rfl⟩ := Int.eq_ofNat_of_zero_le hn
  have k := in_any x f n w (by omega) (by omega) (by omega)
  rw [inW_of x f n d (by omega) hd hd2 h] at k
  exact k

end Go.Proofs.Ytbohnkcmaelmkaa
