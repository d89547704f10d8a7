/- Whole numbers up to 2^53 as floats: how two of them stand to each other, their sum, the lesser of two, what they are as integers. -/
import Derived.Test.YtfbbdfeigenodaaKit
namespace Go.Proofs.Ytfbbdfeigenodaa

/-- the place and the figures of a whole number's float -/
def figs (s : Nat) : Nat := s * 2 ^ 53 / 2 ^ (s.log2 + 1)
def bitsOf (s : Nat) : Nat := if s = 0 then 0 else (1022 + s.log2) * 2 ^ 52 + figs s
def F (s : Nat) : Nat := floatOfInt .f64 (s : Int)

theorem log_le {s : Nat} (h0 : s ≠ 0) (h : s ≤ 2 ^ 53) : s.log2 ≤ 53 := by
  have h1 := Nat.log2_self_le h0
  rcases Nat.lt_or_ge 53 s.log2 with g | g
  · have : 2 ^ 54 ≤ 2 ^ s.log2 := Nat.pow_le_pow_right (by omega) g
    have e : (2 : Nat) ^ 54 = 2 * 2 ^ 53 := rfl
    have : 0 < (2 : Nat) ^ 53 := Nat.two_pow_pos _
    omega
  · exact g
theorem log_eq {s : Nat} (h : s ≤ 2 ^ 53) (g : s.log2 = 53) : s = 2 ^ 53 := by
  have h0 : s ≠ 0 := by intro e; subst e; simp at g
  have h1 := Nat.log2_self_le h0
  rw [g] at h1
  omega
theorem log_mul (s j : Nat) (h0 : s ≠ 0) : (s * 2 ^ j).log2 = s.log2 + j := by
  have hp : 0 < (2 : Nat) ^ j := Nat.two_pow_pos _
  rw [Nat.log2_eq_iff (Nat.mul_ne_zero h0 (Nat.ne_of_gt hp))]
  refine ⟨?_, ?_⟩
  · rw [Nat.pow_add]
    exact Nat.mul_le_mul_right _ (Nat.log2_self_le h0)
  · rw [show s.log2 + j + 1 = (s.log2 + 1) + j by omega, Nat.pow_add]
    exact Nat.mul_lt_mul_of_pos_right Nat.lt_log2_self hp

theorem cut_zero (n : Nat) : Ieee.Toward.even.cut false n 0 = n := by
  simp [Ieee.Toward.cut, Nat.mod_one]
theorem cut_exact (way : Ieee.Toward) (q d : Nat) (hq : q ≠ 0) : way.cut false (q * 2 ^ d) d = q := by
  have hl : d ≤ (q * 2 ^ d).log2 + 2 := by rw [log_mul q d hq]; omega
  have h1 : q * 2 ^ d / 2 ^ d = q := Nat.mul_div_cancel _ (Nat.two_pow_pos _)
  have h2 : q * 2 ^ d % 2 ^ d = 0 := Nat.mul_mod_left _ _
  unfold Ieee.Toward.cut
  simp only [Nat.min_eq_left hl, Nat.one_shiftLeft, h1, h2]
  cases way <;> simp

theorem figs_small {s : Nat} (g : s.log2 ≤ 52) : figs s = s * 2 ^ (52 - s.log2) := by
  unfold figs
  have e : (2 : Nat) ^ 53 = 2 ^ (52 - s.log2) * 2 ^ (s.log2 + 1) := by rw [← Nat.pow_add]; congr 1; omega
  rw [e, ← Nat.mul_assoc, Nat.mul_div_cancel _ (Nat.two_pow_pos _)]
theorem figs_top : figs (2 ^ 53) = 2 ^ 52 := by
  unfold figs
  rw [Nat.log2_two_pow]
theorem figs_ge {s : Nat} (h0 : s ≠ 0) (h : s ≤ 2 ^ 53) : 2 ^ 52 ≤ figs s := by
  rcases Nat.lt_or_ge 52 s.log2 with g | g
  · have := log_le h0 h
    rw [log_eq h (by omega), figs_top]
    exact Nat.le_refl _
  · rw [figs_small g]
    have h1 := Nat.log2_self_le h0
    have e : (2 : Nat) ^ 52 = 2 ^ s.log2 * 2 ^ (52 - s.log2) := by rw [← Nat.pow_add]; congr 1; omega
    rw [e]
    exact Nat.mul_le_mul_right _ h1
theorem figs_lt {s : Nat} (h0 : s ≠ 0) (h : s ≤ 2 ^ 53) : figs s < 2 ^ 53 := by
  rcases Nat.lt_or_ge 52 s.log2 with g | g
  · have := log_le h0 h
    rw [log_eq h (by omega), figs_top]
    decide
  · rw [figs_small g]
    have h1 := Nat.lt_log2_self (n := s)
    have e : (2 : Nat) ^ 53 = 2 ^ (s.log2 + 1) * 2 ^ (52 - s.log2) := by rw [← Nat.pow_add]; congr 1; omega
    rw [e]
    exact Nat.mul_lt_mul_of_pos_right h1 (Nat.two_pow_pos _)

theorem least_eq : Ieee.double.leastPlace = -1074 := by decide
theorem binade_eq : Ieee.double.binade = 2 ^ 52 := rfl
theorem frac_eq : Ieee.double.fractionBits = 52 := rfl
theorem inf_eq : Ieee.double.infRung = 2047 * 2 ^ 52 := rfl
theorem sign_eq : Ieee.double.signWeight = 2 ^ 63 := rfl

theorem nearest_at {s j : Nat} (h : s ≤ 2 ^ 53) (hj : j ≤ 1074) : Ieee.double.nearest false (s * 2 ^ j) (-(j : Int)) = bitsOf s := by
  by_cases h0 : s = 0
  · subst h0
    simp [Ieee.Format.nearest, Ieee.Format.word, bitsOf]
  · have hT : s * 2 ^ j ≠ 0 := Nat.mul_ne_zero h0 (Nat.ne_of_gt (Nat.two_pow_pos _))
    have hl := log_le h0 h
    have hf := figs_lt h0 h
    have hlast : max (-(j : Int) + ((s * 2 ^ j).log2 : Nat) - (52 : Nat)) (-1074) = (s.log2 : Int) - 52 := by
      rw [log_mul s j h0]
      rw [Int.max_def]
      split <;> omega
    unfold Ieee.Format.nearest
    rw [if_neg hT]
    simp only [frac_eq, least_eq, hlast, binade_eq, inf_eq, Ieee.Format.word]
    have hk : Ieee.Toward.even.cut false ((s * 2 ^ j) <<< (-(j : Int) - ((s.log2 : Int) - 52)).toNat) (((s.log2 : Int) - 52) - -(j : Int)).toNat = figs s := by
      rcases Nat.lt_or_ge 52 s.log2 with g | g
      · have hs : s = 2 ^ 53 := log_eq h (by omega)
        have e1 : (-(j : Int) - ((s.log2 : Int) - 52)).toNat = 0 := by omega
        have e2 : (((s.log2 : Int) - 52) - -(j : Int)).toNat = j + 1 := by omega
        rw [e1, e2, hs, figs_top, Nat.shiftLeft_zero]
        have e3 : (2 : Nat) ^ 53 * 2 ^ j = 2 ^ 52 * 2 ^ (j + 1) := by rw [← Nat.pow_add, ← Nat.pow_add]; congr 1; omega
        rw [e3]
        exact cut_exact _ _ _ (by decide)
      · rw [figs_small g]
        rcases Nat.lt_or_ge (52 - s.log2) j with g2 | g2
        · have e1 : (-(j : Int) - ((s.log2 : Int) - 52)).toNat = 0 := by omega
          have e2 : (((s.log2 : Int) - 52) - -(j : Int)).toNat = j - (52 - s.log2) := by omega
          rw [e1, e2, Nat.shiftLeft_zero]
          have e3 : s * 2 ^ j = s * 2 ^ (52 - s.log2) * 2 ^ (j - (52 - s.log2)) := by rw [Nat.mul_assoc, ← Nat.pow_add]; congr 2; omega
          rw [e3]
          exact cut_exact _ _ _ (Nat.mul_ne_zero h0 (Nat.ne_of_gt (Nat.two_pow_pos _)))
        · have e1 : (-(j : Int) - ((s.log2 : Int) - 52)).toNat = (52 - s.log2) - j := by omega
          have e2 : (((s.log2 : Int) - 52) - -(j : Int)).toNat = 0 := by omega
          rw [e1, e2, cut_zero, Nat.shiftLeft_eq, Nat.mul_assoc, ← Nat.pow_add]
          congr 2; omega
    rw [hk]
    have e4 : (((s.log2 : Int) - 52) - -1074).toNat = 1022 + s.log2 := by omega
    rw [e4]
    simp only [Bool.false_eq_true, if_false, bitsOf, if_neg h0]
    apply Nat.min_eq_left
    have a1 : (1022 + s.log2) * 2 ^ 52 ≤ 1075 * 2 ^ 52 := Nat.mul_le_mul_right _ (by omega)
    have hB : (2 : Nat) ^ 53 = 2 * 2 ^ 52 := rfl
    rw [hB] at hf
    clear hk hB hT hlast h
    generalize (2 : Nat) ^ 52 = B at a1 hf ⊢
    omega

theorem F_bits {s : Nat} (h : s ≤ 2 ^ 53) : F s = bitsOf s := by
  have := nearest_at (j := 0) h (by omega)
  simp only [Nat.pow_zero, Nat.mul_one, Int.natCast_zero, Int.neg_zero] at this
  rw [← this]
  unfold F floatOfInt FloatKind.nearest FloatKind.encode FloatKind.format Ieee.Format.write
  simp only [Int.natAbs_natCast]
  have : decide ((s : Int) < 0) = false := by simp
  rw [this]

theorem read_normal (x : Nat) (hlt : x < 2 ^ 63) (h1 : ¬ x < 2 ^ 52) (h2 : x < 2047 * 2 ^ 52) :
    Ieee.double.read x = .number false (2 ^ 52 + x % 2 ^ 52) (-1074 + ((x / 2 ^ 52 - 1 : Nat) : Int)) := by
  have e1 : x % Ieee.double.signWeight = x := Nat.mod_eq_of_lt hlt
  have e2 : x / Ieee.double.signWeight = 0 := Nat.div_eq_of_lt hlt
  have h1' : ¬ x < Ieee.double.binade := h1
  have h2' : x < Ieee.double.infRung := h2
  unfold Ieee.Format.read
  simp only [e1, e2]
  rw [if_neg h1', if_pos h2', least_eq, binade_eq]
  rfl

/-- what a whole number's float stands for: s = M / 2^j -/
theorem read_F {s : Nat} (h : s < 2 ^ 53) : ∃ j : Nat, j ≤ 1074 ∧ Ieee.double.read (F s) = .number false (s * 2 ^ j) (-(j : Int)) := by
  have h53 : s ≤ 2 ^ 53 := Nat.le_of_lt h
  rw [F_bits h53]
  by_cases h0 : s = 0
  · subst h0
    obtain ⟨j, hj⟩ : ∃ j : Nat, j = 1074 := ⟨_, rfl⟩
    refine ⟨j, by omega, ?_⟩
    rw [Nat.zero_mul, hj]
    rfl
  · have hl : s.log2 ≤ 52 := by
      have h1 := Nat.log2_self_le h0
      rcases Nat.lt_or_ge 52 s.log2 with g | g
      · have : 2 ^ 53 ≤ 2 ^ s.log2 := Nat.pow_le_pow_right (by omega) g
        omega
      · exact g
    have f1 := figs_ge h0 h53
    have f2 := figs_lt h0 h53
    have f3 := figs_small hl
    refine ⟨52 - s.log2, by omega, ?_⟩
    unfold bitsOf
    rw [if_neg h0]
    generalize figs s = f at f1 f2 f3
    have p52 : 0 < (2 : Nat) ^ 52 := Nat.two_pow_pos _
    have e53 : (2 : Nat) ^ 53 = 2 * 2 ^ 52 := rfl
    have e63 : (2 : Nat) ^ 63 = 2048 * 2 ^ 52 := rfl
    obtain ⟨r, rfl⟩ : ∃ r, f = 2 ^ 52 + r := ⟨f - 2 ^ 52, by omega⟩
    have hr : r < 2 ^ 52 := by omega
    have e1 : (1022 + s.log2) * 2 ^ 52 + (2 ^ 52 + r) = (1023 + s.log2) * 2 ^ 52 + r := by
      have : (1023 + s.log2) = (1022 + s.log2) + 1 := by omega
      rw [this, Nat.succ_mul]; omega
    rw [e1]
    have a1 : (1023 + s.log2) * 2 ^ 52 ≤ 1075 * 2 ^ 52 := Nat.mul_le_mul_right _ (by omega)
    have hlt : (1023 + s.log2) * 2 ^ 52 + r < 2 ^ 63 := by omega
    have d1 : ((1023 + s.log2) * 2 ^ 52 + r) / 2 ^ 52 = 1023 + s.log2 := by
      rw [Nat.mul_comm, Nat.mul_add_div p52, Nat.div_eq_of_lt hr]; omega
    have d2 : ((1023 + s.log2) * 2 ^ 52 + r) % 2 ^ 52 = r := by
      rw [Nat.mul_comm, Nat.mul_add_mod, Nat.mod_eq_of_lt hr]
    have b1 : 1 * 2 ^ 52 ≤ (1023 + s.log2) * 2 ^ 52 := Nat.mul_le_mul_right _ (by omega)
    rw [read_normal _ hlt (by omega) (by omega), d1, d2, f3]
    have : -1074 + ((1023 + s.log2 - 1 : Nat) : Int) = -((52 - s.log2 : Nat) : Int) := by omega
    rw [this]

theorem order_F {a b : Nat} (ha : a < 2 ^ 53) (hb : b < 2 ^ 53) : FloatKind.f64.format.order (F a) (F b) = some (compare a b) := by
  show Ieee.double.order (F a) (F b) = _
  obtain ⟨i, hi, ra⟩ := read_F ha
  obtain ⟨j, hj, rb⟩ := read_F hb
  unfold Ieee.Format.order
  rw [ra, rb]
  simp only [Ieee.Datum.order, Ieee.signed, Bool.false_eq_true, if_false]
  congr 1
  rcases Nat.le_total i j with h | h
  · have e1 : (-(i : Int) - min (-(i : Int)) (-(j : Int))).toNat = j - i := by omega
    have e2 : (-(j : Int) - min (-(i : Int)) (-(j : Int))).toNat = 0 := by omega
    rw [e1, e2, Nat.shiftLeft_zero, Nat.shiftLeft_eq, Nat.mul_assoc, ← Nat.pow_add, show i + (j - i) = j by omega]
    have hp : 0 < (2 : Nat) ^ j := Nat.two_pow_pos _
    rcases Nat.lt_trichotomy a b with g | g | g
    · have : a * 2 ^ j < b * 2 ^ j := Nat.mul_lt_mul_of_pos_right g hp
      rw [Nat.compare_eq_lt.2 g]
      exact (Int.compare_eq_lt).2 (by omega)
    · subst g
      simp
    · have : b * 2 ^ j < a * 2 ^ j := Nat.mul_lt_mul_of_pos_right g hp
      rw [Nat.compare_eq_gt.2 g]
      exact (Int.compare_eq_gt).2 (by omega)
  · have e1 : (-(i : Int) - min (-(i : Int)) (-(j : Int))).toNat = 0 := by omega
    have e2 : (-(j : Int) - min (-(i : Int)) (-(j : Int))).toNat = i - j := by omega
    rw [e1, e2, Nat.shiftLeft_zero, Nat.shiftLeft_eq, Nat.mul_assoc, ← Nat.pow_add, show j + (i - j) = i by omega]
    have hp : 0 < (2 : Nat) ^ i := Nat.two_pow_pos _
    rcases Nat.lt_trichotomy a b with g | g | g
    · have : a * 2 ^ i < b * 2 ^ i := Nat.mul_lt_mul_of_pos_right g hp
      rw [Nat.compare_eq_lt.2 g]
      exact (Int.compare_eq_lt).2 (by omega)
    · subst g
      simp
    · have : b * 2 ^ i < a * 2 ^ i := Nat.mul_lt_mul_of_pos_right g hp
      rw [Nat.compare_eq_gt.2 g]
      exact (Int.compare_eq_gt).2 (by omega)

theorem lt53 {a : Nat} (h : a ≤ 2 ^ 52) : a < 2 ^ 53 := Nat.lt_of_le_of_lt h (by decide)

theorem order_top {a : Nat} (ha : a ≤ 2 ^ 53) : FloatKind.f64.format.order (F a) (F (2 ^ 52)) = some (compare a (2 ^ 52)) := by
  rcases Nat.lt_or_ge a (2 ^ 53) with h | h
  · exact order_F h (by decide)
  · obtain rfl : a = 2 ^ 53 := by omega
    decide

theorem add_F {a b : Nat} (ha : a ≤ 2 ^ 52) (hb : b ≤ 2 ^ 52) : floatBits .add .f64 (F a) (F b) = some (F (a + b)) := by
  have hs : a + b ≤ 2 ^ 53 := by
    have : (2 : Nat) ^ 53 = 2 * 2 ^ 52 := rfl
    omega
  show Ieee.double.add (F a) (F b) = _
  obtain ⟨i, hi, ra⟩ := read_F (lt53 ha)
  obtain ⟨j, hj, rb⟩ := read_F (lt53 hb)
  unfold Ieee.Format.add
  rw [ra, rb, F_bits hs]
  simp only [Ieee.Datum.sum, Ieee.signed, Bool.false_eq_true, if_false, Option.map_some, Ieee.Format.write]
  have main : ∀ (k : Nat) (x y : Nat), k ≤ 1074 → x = a * 2 ^ k → y = b * 2 ^ k →
      Ieee.double.nearest (if ((x : Int) + (y : Int)) = 0 then (false && false) else decide ((x : Int) + (y : Int) < 0)) ((x : Int) + (y : Int)).natAbs (-(k : Int)) = bitsOf (a + b) := by
    intro k x y hk hx hy
    have e1 : ((x : Int) + (y : Int)).natAbs = (a + b) * 2 ^ k := by rw [Nat.add_mul, ← hx, ← hy]; omega
    have e2 : (if ((x : Int) + (y : Int)) = 0 then (false && false) else decide ((x : Int) + (y : Int) < 0)) = false := by
      split
      · rfl
      · exact decide_eq_false (by omega)
    rw [e1, e2]
    exact nearest_at hs hk
  rcases Nat.le_total i j with h | h
  · have e1 : (-(i : Int) - min (-(i : Int)) (-(j : Int))).toNat = j - i := by omega
    have e2 : (-(j : Int) - min (-(i : Int)) (-(j : Int))).toNat = 0 := by omega
    have e3 : min (-(i : Int)) (-(j : Int)) = -(j : Int) := by omega
    rw [e1, e2, e3]
    rw [main j _ _ hj (by rw [Nat.shiftLeft_eq, Nat.mul_assoc, ← Nat.pow_add, show i + (j - i) = j by omega]) (by rw [Nat.shiftLeft_zero])]
  · have e1 : (-(i : Int) - min (-(i : Int)) (-(j : Int))).toNat = 0 := by omega
    have e2 : (-(j : Int) - min (-(i : Int)) (-(j : Int))).toNat = i - j := by omega
    have e3 : min (-(i : Int)) (-(j : Int)) = -(i : Int) := by omega
    rw [e1, e2, e3]
    rw [main i _ _ hi (by rw [Nat.shiftLeft_zero]) (by rw [Nat.shiftLeft_eq, Nat.mul_assoc, ← Nat.pow_add, show j + (i - j) = i by omega])]

/-- the lesser of one and the greatest that may be -/
theorem min_F {P : Program} (w : World) (ts : Array TypeId) (t : TypeId) {a : Nat} (ha : a ≤ 2 ^ 53) :
    (Builtin.min_ ts t #[.float .f64 (F a), .float .f64 (F (2 ^ 52))]).run P w = .ok (.float .f64 (F (min a (2 ^ 52)))) w := by
  have ho := order_top ha
  have e : Builtin.min_ ts t #[.float .f64 (F a), .float .f64 (F (2 ^ 52))] = (Builtin.min2 (.float .f64 (F a)) (.float .f64 (F (2 ^ 52))) >>= fun v => pure v) := rfl
  rw [e]
  rcases Nat.lt_trichotomy a (2 ^ 52) with g | g | g
  · rw [Nat.compare_eq_lt.2 g] at ho
    simp only [Builtin.min2, ho, Nat.min_eq_left (Nat.le_of_lt g)]
    rfl
  · have hn : (FloatKind.f64.decode (F a)).neg = false := by
      obtain ⟨i, _, r⟩ := read_F (s := a) (by rw [g]; decide)
      show (Ieee.double.read (F a)).neg = false
      rw [r]
      rfl
    subst g
    rw [Nat.compare_eq_eq.2 rfl] at ho
    simp only [Builtin.min2, ho, hn, Nat.min_self]
    rfl
  · rw [Nat.compare_eq_gt.2 g] at ho
    simp only [Builtin.min2, ho, Nat.min_eq_right (Nat.le_of_lt g)]
    rfl

theorem integral_F {a : Nat} (ha : a ≤ 2 ^ 52) : (Ieee.double.read (F a)).integral .zero = .number false a 0 := by
  obtain ⟨i, hi, r⟩ := read_F (lt53 ha)
  rw [r]
  have e1 : (-(i : Int)).toNat = 0 := by omega
  have e2 : (- -(i : Int)).toNat = i := by omega
  simp only [Ieee.Datum.integral, e1, e2, Nat.shiftLeft_zero]
  by_cases h0 : a = 0
  · subst h0
    rw [Nat.zero_mul]
    simp [Ieee.Toward.cut]
  · rw [cut_exact _ _ _ h0]

/-- what it is as an integer -/
theorem toInt_F {a : Nat} (ha : a ≤ 2 ^ 52) : floatToIntVal .f64 (F a) .i64 = some (a : Int) := by
  have h : ((FloatKind.f64.decode (F a)).toInt .zero) = some (a : Int) := by
    show (Ieee.double.read (F a)).toInt .zero = _
    unfold Ieee.Datum.toInt
    rw [integral_F ha]
    simp [Ieee.signed]
  unfold floatToIntVal
  rw [h]
  have : IntKind.i64.min ≤ (a : Int) ∧ (a : Int) ≤ IntKind.i64.max := by
    have e1 : IntKind.i64.min = -9223372036854775808 := by decide
    have e2 : IntKind.i64.max = 9223372036854775807 := by decide
    rw [e1, e2]
    have : (2 : Nat) ^ 52 = 4503599627370496 := by decide
    omega
  exact if_pos this

theorem encode_F (a : Nat) : FloatKind.f64.encode (.number false a 0) = F a := by
  unfold F floatOfInt FloatKind.nearest
  have : decide ((a : Int) < 0) = false := by simp
  rw [this, Int.natAbs_natCast]
theorem toIntegral_is (name : String) (way : Ieee.Toward) (x : Nat) : Extern.MathFloor.toIntegral name way #[.float .f64 x] =
    (match FloatKind.f64.decode x with
    | .nan s t => if FloatKind.f64.format.quiet t = t then pure (.float .f64 x) else do
        let kept ← choose (.extern "math.Floor,Ceil,Trunc,RoundToEven.signallingNaN kept" 2)
        pure (.float .f64 (if kept == 1 then x else FloatKind.f64.encode (.nan s (FloatKind.f64.format.quiet t))))
    | d => pure (.float .f64 (FloatKind.f64.encode (d.integral way)))) := by
  rfl
/-- math.Trunc's entry -/
theorem trunc_F {P : Program} (w : World) {a : Nat} (ha : a ≤ 2 ^ 52) : (Extern.MathFloor.toIntegral "math.archTrunc" .zero #[.float .f64 (F a)]).run P w = .ok (.float .f64 (F a)) w := by
  obtain ⟨i, _, r⟩ := read_F (lt53 ha)
  have r' : FloatKind.f64.decode (F a) = .number false (a * 2 ^ i) (-(i : Int)) := r
  have e : (FloatKind.f64.decode (F a)).integral .zero = .number false a 0 := integral_F ha
  rw [r'] at e
  rw [toIntegral_is, r']
  simp only [e, encode_F]
  rfl

theorem F_top : F 4503599627370496 = 4841369599423283200 := by decide
theorem F_zero : F 0 = 0 := by decide

end Go.Proofs.Ytfbbdfeigenodaa
