/- Masks and prefixes of addresses, without the program and as contracts of package addr's Mask and of the document's Mask and In. Conditions: numbers in their kinds' bounds. -/
import Derived.Test.YtmicgkoicmeflaaKit
import Derived.Laws.BitsAllLaws
namespace Go.Proofs.Ytmicgkoicmeflaa
open Go.RowKit

/-- the address whose first k bits are 1 -/
def mk (k : Nat) : Nat := 4294967296 - 2 ^ (32 - k)
/-- how many bits count -/
def clip (n : Int) : Nat := if n < 0 then 0 else if 32 < n then 32 else n.toNat
/-- whether two addresses have their first k bits in common -/
def inB (a b k : Nat) : Bool := decide (a / 2 ^ (32 - k) = b / 2 ^ (32 - k))
theorem clip_le (n : Int) : clip n ≤ 32 := by unfold clip; split <;> (try split) <;> omega
theorem mk_lt (k : Nat) : mk k < 4294967296 := by
  unfold mk
  have := Nat.two_pow_pos (32 - k)
  omega
theorem mk_val' : ∀ k : Nat, k < 33 → (4294967295 * 2 ^ (32 - k) % 4294967296 : Int) = (mk k : Int) := by decide +kernel
theorem mk_or' : ∀ k : Nat, k < 32 → mk k ||| 2 ^ (31 - k) = mk (k + 1) := by decide +kernel
theorem mk_shl' : ∀ k : Nat, k < 33 → mk k = (2 ^ k - 1) <<< (32 - k) := by decide +kernel
theorem and_mk (x k : Nat) (hx : x < 4294967296) (hk : k ≤ 32) : x &&& mk k = x / 2 ^ (32 - k) * 2 ^ (32 - k) := by
  rw [mk_shl' k (by omega), ← Nat.shiftRight_eq_div_pow, ← Nat.shiftLeft_eq]
  apply Nat.eq_of_testBit_eq
  intro i
  rw [Nat.testBit_and, Nat.testBit_shiftLeft, Nat.testBit_two_pow_sub_one, Nat.testBit_shiftLeft, Nat.testBit_shiftRight]
  by_cases h : 32 - k ≤ i
  · rw [show 32 - k + (i - (32 - k)) = i by omega]
    by_cases h2 : i < 32
    · have e1 : i - (32 - k) < k := by omega
      simp [h, e1]
    · have : x.testBit i = false := Nat.testBit_lt_two_pow (Nat.lt_of_lt_of_le hx (Nat.pow_le_pow_right (n := 2) (by omega) (show 32 ≤ i by omega)))
      simp [this]
  · have e1 : ¬ i ≥ 32 - k := h
    simp [e1]
theorem and_eq_iff (a b k : Nat) (ha : a < 4294967296) (hb : b < 4294967296) (hk : k ≤ 32) : (a &&& mk k = b &&& mk k) ↔ inB a b k = true := by
  rw [and_mk a k ha hk, and_mk b k hb hk]
  unfold inB
  rw [decide_eq_true_iff]
  exact ⟨fun h => Nat.eq_of_mul_eq_mul_right (Nat.two_pow_pos _) h, fun h => by rw [h]⟩
theorem xor_and_zero (a b k : Nat) (ha : a < 4294967296) (hb : b < 4294967296) (hk : k ≤ 32) : ((a ^^^ b) &&& mk k = 0) ↔ inB a b k = true := by
  rw [← and_eq_iff a b k ha hb hk, Nat.and_xor_distrib_right]
  constructor
  · intro h
    have e : (a &&& mk k) ^^^ (b &&& mk k) ^^^ (b &&& mk k) = b &&& mk k := by rw [h, Nat.zero_xor]
    rw [Nat.xor_assoc, Nat.xor_self, Nat.xor_zero] at e
    exact e
  · intro h
    rw [h, Nat.xor_self]

set_option maxHeartbeats 1000000 in
theorem mask_any (n : Int) (w : World) :
    Calls Try.prog 29 #[.int .i64 n] w fun e w' => e = .returned (.int .u32 ((mk (clip n) : Nat) : Int)) ∧ w' = w := by
  by_cases h0 : n < 0
  · have e : clip n = 0 := if_pos h0
    rw [e]
    go_enter Try.func29, Try.ntmps29
    go_wp2
    go_ret
    exact ⟨rfl, rfl⟩
  · by_cases h1 : 32 < n
    · have e : clip n = 32 := by unfold clip; rw [if_neg h0, if_pos h1]
      rw [e]
      go_enter Try.func29, Try.ntmps29
      go_wp2
      go_ret
      exact ⟨rfl, rfl⟩
    · have e : clip n = n.toNat := by unfold clip; rw [if_neg h0, if_neg h1]
      rw [e]
      obtain ⟨k, rfl⟩ : ∃ k : Nat, n = (k : Int) := ⟨n.toNat, by omega⟩
      have hk : k ≤ 32 := by omega
      rw [Int.toNat_natCast, ← mk_val' k (by omega)]
      clear e h0 h1
      go_enter Try.func29, Try.ntmps29
      go_wp2
      go_ret
      exact ⟨rfl, rfl⟩

theorem pow_sm (k : Nat) (h : k < 32) : (2 : Int) ^ (31 - k) % 4294967296 = ((2 ^ (31 - k) : Nat) : Int) ∧ 2 ^ (31 - k) < 4294967296 := by
  have h1 : 2 ^ (31 - k) ≤ 2 ^ 31 := Nat.pow_le_pow_right (by omega) (by omega)
  have e : (2 : Int) ^ (31 - k) = ((2 ^ (31 - k) : Nat) : Int) := by simp
  rw [e]
  generalize 2 ^ (31 - k) = p at *
  simp at h1
  omega

set_option maxHeartbeats 1000000 in
theorem rmask_any (n : Int) (w : World) :
    Calls Try.prog 28 #[.int .i64 n] w fun e w' => e = .returned (.int .u32 ((mk (clip n) : Nat) : Int)) ∧ w' = w := by
  have hc := clip_le n
  go_enter Try.func28, Try.ntmps28
  go_wp2
  go_loop [3, 4] (fun x i => ∃ k : Nat, k ≤ clip n ∧ i = .int .i64 (k : Int) ∧ x = .int .u32 (mk k : Nat)) (fun _ i => 32 - (intOf i).toNat)
  case atStart => exact ⟨0, Nat.zero_le _, rfl, rfl⟩
  case round =>
    obtain ⟨k, hk, rfl, rfl⟩ := hrel
    by_cases hlt : k < clip n
    · have h1 : (k : Int) < n := by unfold clip at hlt; split at hlt <;> (try split at hlt) <;> omega
      have h2 : k < 32 := by omega
      have hm := mk_lt k
      have HO := hide (mk_or' k h2)
      generalize mk k = m at *
      obtain ⟨e1, e2⟩ := pow_sm k h2
      have HB : Hid (bits .or .u32 (m : Int) (2 ^ (31 - k) % 4294967296) = ((mk (k + 1) : Nat) : Int)) := by
        rw [e1, u32_or_nat m _ hm e2, unhide HO]
        exact rfl
      clear e1 e2
      go_wp2
      rw [unhide HB]
      go_round
      case rel => exact ⟨k + 1, by omega, by go_num, rfl⟩
      case measure => simp [intOf]; omega
    · have e : k = clip n := by omega
      subst e
      generalize hm : mk (clip n) = m at *
      have h1 : ¬ ((clip n : Int) < n ∧ clip n < 32) := by
        rintro ⟨ha, hb⟩
        unfold clip at ha hb
        split at ha <;> (try split at ha) <;> (try split at hb) <;> (try split at hb) <;> omega
      have HM := hide hm
      clear hm hk hlt hc
      generalize clip n = k at h1 ⊢
      by_cases h2 : (k : Int) < n
      · have h3 : ¬ k < 32 := fun h => h1 ⟨h2, h⟩
        clear h1
        go_wp2
        go_ret
        exact ⟨by rw [unhide HM]; rfl, rfl⟩
      · clear h1
        go_wp2
        go_ret
        exact ⟨by rw [unhide HM]; rfl, rfl⟩

set_option maxHeartbeats 1000000 in
theorem rin_any (a b : Nat) (n : Int) (w : World) (ha : a < 4294967296) (hb : b < 4294967296) :
    Calls Try.prog 19 #[.int .u32 (a : Int), .int .u32 (b : Int), .int .i64 n] w fun e w' => e = .returned (.bool (inB a b (clip n))) ∧ w' = w := by
  have H1 := hide (fun w => rmask_any n w)
  have hk := clip_le n
  have hm := mk_lt (clip n)
  have HX := hide (and_eq_iff a b (clip n) ha hb hk)
  generalize inB a b (clip n) = r at *
  generalize mk (clip n) = m at *
  have h1 : bits .and .u32 (a : Int) (m : Int) = ((a &&& m : Nat) : Int) := u32_and_nat a m ha hm
  have h2 : bits .and .u32 (b : Int) (m : Int) = ((b &&& m : Nat) : Int) := u32_and_nat b m hb hm
  have l1 : a &&& m < 4294967296 := Nat.lt_of_le_of_lt Nat.and_le_left ha
  have l2 : b &&& m < 4294967296 := Nat.lt_of_le_of_lt Nat.and_le_left hb
  generalize a &&& m = x at *
  generalize b &&& m = y at *
  go_enter Try.func19, Try.ntmps19
  go_wp2_with fail
  refine (unhide H1 _).mono ?_
  rintro e w1 ⟨rfl, rfl⟩
  go_wp2_with fail
  refine (unhide H1 _).mono ?_
  rintro e w1 ⟨rfl, rfl⟩
  go_wp2_with fail
  go_ret
  refine ⟨?_, rfl⟩
  have e : (((x : Int) == (y : Int)) : Bool) = r := by
    rw [Bool.eq_iff_iff]
    have := unhide HX
    simp only [beq_iff_eq, Int.natCast_inj]
    exact this
  rw [← e]
  rfl

end Go.Proofs.Ytmicgkoicmeflaa
