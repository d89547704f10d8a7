/- Plain facts on bytes and numbers, without the program: the number of bytes, the highest first; a number's bytes; a shift by eight and an or are times 256 and plus. No conditions but those that each line bears. -/
import Derived.WalkKit
import Derived.Lib.Strings
import Derived.Laws.BitsAllLaws
namespace Go.Proofs.Ytekljiakofmhnaa

def num (l : List UInt8) : Nat := l.foldl (fun x c => 256 * x + c.toNat) 0

theorem num_foldl (l : List UInt8) : ∀ x : Nat, l.foldl (fun x c => 256 * x + c.toNat) x = x * 256 ^ l.length + num l := by
  induction l with
  | nil => intro x; simp [num]
  | cons c l ih =>
    intro x
    have e : num (c :: l) = (256 * 0 + c.toNat) * 256 ^ l.length + num l := by
      show List.foldl _ (256 * 0 + c.toNat) l = _
      exact ih _
    rw [List.foldl_cons, ih, e, List.length_cons, Nat.pow_succ, Nat.add_mul, Nat.add_mul]
    have : 256 * x * 256 ^ l.length = x * (256 ^ l.length * 256) := by rw [Nat.mul_comm 256 x, Nat.mul_assoc, Nat.mul_comm 256]
    omega

theorem num_nil : num [] = 0 := rfl
theorem num_cons (c : UInt8) (l : List UInt8) : num (c :: l) = c.toNat * 256 ^ l.length + num l := by
  have e : num (c :: l) = List.foldl (fun x c => 256 * x + c.toNat) (256 * 0 + c.toNat) l := rfl
  rw [e, num_foldl, Nat.mul_zero, Nat.zero_add]
theorem num_snoc (l : List UInt8) (c : UInt8) : num (l ++ [c]) = 256 * num l + c.toNat := by simp [num, List.foldl_append]
theorem num_lt (l : List UInt8) : num l < 256 ^ l.length := by
  induction l with
  | nil => simp [num]
  | cons c l ih =>
    rw [num_cons, List.length_cons, Nat.pow_succ]
    have hc := c.toNat_lt
    have : c.toNat * 256 ^ l.length ≤ 255 * 256 ^ l.length := Nat.mul_le_mul_right _ (by omega)
    omega

def byt (x k : Nat) : UInt8 := UInt8.ofNat (x / 256 ^ k)
theorem byt_toNat (x k : Nat) : (byt x k).toNat = x / 256 ^ k % 256 := by simp [byt]
def ofB (x : Nat) : Nat → List UInt8
  | 0 => []
  | n + 1 => byt x n :: ofB x n
theorem ofB_length (x n : Nat) : (ofB x n).length = n := by induction n with
  | zero => rfl
  | succ n ih => simp [ofB, ih]
theorem num_ofB (x n : Nat) : num (ofB x n) = x % 256 ^ n := by
  induction n with
  | zero => simp [ofB, num, Nat.mod_one]
  | succ n ih =>
    rw [ofB, num_cons, ofB_length, ih, byt_toNat, Nat.pow_succ, Nat.mod_mul]
    rw [Nat.mul_comm]
    omega
theorem ofB_drop (x n k : Nat) : (ofB x (n + k)).drop k = ofB x n := by
  induction k with
  | zero => simp
  | succ k ih => rw [← Nat.add_assoc, ofB, List.drop_succ_cons, ih]
theorem byt_div (x k j : Nat) : byt (x / 256 ^ k) j = byt x (k + j) := by
  unfold byt
  rw [Nat.div_div_eq_div_mul, ← Nat.pow_add]
theorem ofB_take (x n k : Nat) : (ofB x (n + k)).take n = ofB (x / 256 ^ k) n := by
  induction n with
  | zero => simp [ofB]
  | succ n ih =>
    rw [show n + 1 + k = (n + k) + 1 from by omega, ofB, List.take_succ_cons, ih, ofB, byt_div, Nat.add_comm n k]

theorem or_join (y b : Int) (h0 : 0 ≤ y) (h1 : y < 72057594037927936) (hb0 : 0 ≤ b) (hb1 : b < 256) :
    bits .or .u64 (IntKind.u64.wrap (y * 256)) b = y * 256 + b := by
  rw [IntKind.wrap_u64, Int.emod_eq_of_lt (by omega) (by omega),
    u64_or _ _ (by omega) (by omega) (by omega) (by omega), nat_join8 _ _ (by omega) (by omega)]
  omega
theorem or_first (b : Int) (hb0 : 0 ≤ b) (hb1 : b < 256) : bits .or .u64 0 b = b := by
  rw [u64_or _ _ (by omega) (by omega) (by omega) (by omega)]
  simp
  omega
theorem num8 (c0 c1 c2 c3 c4 c5 c6 c7 : UInt8) : num [c0, c1, c2, c3, c4, c5, c6, c7] =
    ((((((c0.toNat * 256 + c1.toNat) * 256 + c2.toNat) * 256 + c3.toNat) * 256 + c4.toNat) * 256 + c5.toNat) * 256 + c6.toNat) * 256 + c7.toNat := by
  simp only [num, List.foldl_cons, List.foldl_nil]
  omega
theorem joined_num (c0 c1 c2 c3 c4 c5 c6 c7 : UInt8) :
    bits .or .u64 (IntKind.u64.wrap (bits .or .u64 (IntKind.u64.wrap (bits .or .u64 (IntKind.u64.wrap (bits .or .u64 (IntKind.u64.wrap (bits .or .u64 (IntKind.u64.wrap (bits .or .u64 (IntKind.u64.wrap (bits .or .u64 (IntKind.u64.wrap (bits .or .u64 0 (c0.toNat : Int) * 256)) (c1.toNat : Int) * 256)) (c2.toNat : Int) * 256)) (c3.toNat : Int) * 256)) (c4.toNat : Int) * 256)) (c5.toNat : Int) * 256)) (c6.toNat : Int) * 256)) (c7.toNat : Int)
      = (num [c0, c1, c2, c3, c4, c5, c6, c7] : Nat) := by
  have b0 := c0.toNat_lt; have b1 := c1.toNat_lt; have b2 := c2.toNat_lt; have b3 := c3.toNat_lt
  have b4 := c4.toNat_lt; have b5 := c5.toNat_lt; have b6 := c6.toNat_lt; have b7 := c7.toNat_lt
  rw [or_first _ (by omega) (by omega)]
  rw [or_join (c0.toNat : Int) (c1.toNat : Int) (by omega) (by omega) (by omega) (by omega)]
  rw [or_join ((c0.toNat : Int) * 256 + (c1.toNat : Int)) (c2.toNat : Int) (by omega) (by omega) (by omega) (by omega)]
  rw [or_join (((c0.toNat : Int) * 256 + (c1.toNat : Int)) * 256 + (c2.toNat : Int)) (c3.toNat : Int) (by omega) (by omega) (by omega) (by omega)]
  rw [or_join ((((c0.toNat : Int) * 256 + (c1.toNat : Int)) * 256 + (c2.toNat : Int)) * 256 + (c3.toNat : Int)) (c4.toNat : Int) (by omega) (by omega) (by omega) (by omega)]
  rw [or_join (((((c0.toNat : Int) * 256 + (c1.toNat : Int)) * 256 + (c2.toNat : Int)) * 256 + (c3.toNat : Int)) * 256 + (c4.toNat : Int)) (c5.toNat : Int) (by omega) (by omega) (by omega) (by omega)]
  rw [or_join ((((((c0.toNat : Int) * 256 + (c1.toNat : Int)) * 256 + (c2.toNat : Int)) * 256 + (c3.toNat : Int)) * 256 + (c4.toNat : Int)) * 256 + (c5.toNat : Int)) (c6.toNat : Int) (by omega) (by omega) (by omega) (by omega)]
  rw [or_join (((((((c0.toNat : Int) * 256 + (c1.toNat : Int)) * 256 + (c2.toNat : Int)) * 256 + (c3.toNat : Int)) * 256 + (c4.toNat : Int)) * 256 + (c5.toNat : Int)) * 256 + (c6.toNat : Int)) (c7.toNat : Int) (by omega) (by omega) (by omega) (by omega)]
  rw [num8]
  omega

end Go.Proofs.Ytekljiakofmhnaa
