/- The hash as a sum without carries, on plain numbers: a key's window, how it goes on by one bit, the hash up to a place; that it goes term by term; that a key of two bytes again and again does not know by which multiple of 16 bits a term is moved. No program in it. -/
import Derived.Test.YtkhkobdbbffkbaaKit
namespace Go.Proofs.Ytkhkobdbbffkbaa

/-- the k bits from place i on, as a number -/
def wn (b : Nat → Nat) (i : Nat) : Nat → Nat
  | 0 => 0
  | k + 1 => 2 * wn b i k + b (i + k)
/-- the hash of the first n bits -/
def th (kb tb : Nat → Nat) : Nat → Nat
  | 0 => 0
  | n + 1 => if tb n = 1 then th kb tb n ^^^ wn kb n 32 else th kb tb n

theorem wn_lt {b : Nat → Nat} (hb : ∀ i, b i < 2) (i : Nat) : ∀ k, wn b i k < 2 ^ k
  | 0 => by simp [wn]
  | k + 1 => by
    have := wn_lt hb i k
    have := hb (i + k)
    rw [wn, Nat.pow_succ]
    omega
theorem wn_add (b : Nat → Nat) (i m : Nat) : ∀ n, wn b i (m + n) = wn b i m * 2 ^ n + wn b (i + m) n
  | 0 => by simp [wn]
  | n + 1 => by
    rw [← Nat.add_assoc, wn, wn_add b i m n, wn, Nat.pow_succ, Nat.add_assoc i m n]
    rw [Nat.mul_add, Nat.mul_comm (2 ^ n) 2, ← Nat.mul_assoc, ← Nat.mul_assoc, Nat.mul_comm 2 (wn b i m)]
    omega
theorem wn_one (b : Nat → Nat) (i : Nat) : wn b i 1 = b i := by simp [wn]
/-- the window that has gone on by one bit -/
theorem wn_step {b : Nat → Nat} (hb : ∀ i, b i < 2) (i : Nat) : 2 * wn b i 32 % 4294967296 + b (i + 32) = wn b (i + 1) 32 := by
  have e1 : wn b i 32 = wn b i 1 * 2 ^ 31 + wn b (i + 1) 31 := wn_add b i 1 31
  have e2 : wn b (i + 1) 32 = 2 * wn b (i + 1) 31 + b (i + 1 + 31) := rfl
  have l := wn_lt hb (i + 1) 31
  have l0 := hb i
  rw [wn_one] at e1
  rw [e1, e2, show i + 32 = i + 1 + 31 by omega]
  have : (2 : Nat) ^ 31 = 2147483648 := by decide
  rw [this] at l ⊢
  omega
theorem wn_eq {b c : Nat → Nat} {i j : Nat} : ∀ {k : Nat}, (∀ m, m < k → b (i + m) = c (j + m)) → wn b i k = wn c j k
  | 0, _ => rfl
  | k + 1, h => by rw [wn, wn, wn_eq (fun m hm => h m (by omega)), h k (by omega)]

theorem th_lt {kb tb : Nat → Nat} (hk : ∀ i, kb i < 2) : ∀ n, th kb tb n < 4294967296
  | 0 => by simp [th]
  | n + 1 => by
    rw [th]
    split
    · exact Nat.xor_lt_two_pow (n := 32) (th_lt hk n) (wn_lt hk n 32)
    · exact th_lt hk n

theorem x2 {a b : Nat} (ha : a < 2) (hb : b < 2) : a ^^^ b = if a = b then 0 else 1 := by
  match a, b, ha, hb with
  | 0, 0, _, _ => rfl
  | 0, 1, _, _ => rfl
  | 1, 0, _, _ => rfl
  | 1, 1, _, _ => rfl
theorem xor4 (a b c : Nat) : (a ^^^ c) ^^^ (b ^^^ c) = a ^^^ b := by
  rw [Nat.xor_comm b c, ← Nat.xor_assoc, Nat.xor_assoc a c c, Nat.xor_self, Nat.xor_zero]
/-- the hash of what two texts differ in is what their hashes differ in -/
theorem th_xor {kb s t d : Nat → Nat} (hs : ∀ i, s i < 2) (ht : ∀ i, t i < 2) : ∀ {n : Nat}, (∀ i, i < n → d i = s i ^^^ t i) → th kb s n ^^^ th kb t n = th kb d n
  | 0, _ => by simp [th]
  | n + 1, h => by
    have ih := th_xor (kb := kb) hs ht (fun i hi => h i (Nat.lt_succ_of_lt hi))
    have e := h n (Nat.lt_succ_self n)
    have a := hs n
    have b := ht n
    rw [x2 a b] at e
    rw [th, th, th]
    by_cases p : s n = 1 <;> by_cases q : t n = 1
    · have e0 : ¬ d n = 1 := by rw [e, if_pos (p.trans q.symm)]; decide
      rw [if_pos p, if_pos q, if_neg e0, xor4, ih]
    · have e0 : d n = 1 := by rw [e, if_neg (by omega)]
      rw [if_pos p, if_neg q, if_pos e0, ← ih, Nat.xor_assoc, Nat.xor_comm (wn kb n 32), ← Nat.xor_assoc]
    · have e0 : d n = 1 := by rw [e, if_neg (by omega)]
      rw [if_neg p, if_pos q, if_pos e0, ← ih, Nat.xor_assoc]
    · have e0 : ¬ d n = 1 := by rw [e, if_pos (by omega)]; decide
      rw [if_neg p, if_neg q, if_neg e0, ih]
theorem th_eq {kb s t : Nat → Nat} : ∀ {n : Nat}, (∀ i, i < n → s i = t i) → th kb s n = th kb t n
  | 0, _ => rfl
  | n + 1, h => by rw [th, th, th_eq (fun i hi => h i (Nat.lt_succ_of_lt hi)), h n (Nat.lt_succ_self n)]
theorem th_zero {kb tb : Nat → Nat} (h : ∀ i, kb i = 0) : ∀ n, th kb tb n = 0
  | 0 => rfl
  | n + 1 => by
    have hw : ∀ i k, wn kb i k = 0 := fun i k => by
      induction k with
      | zero => rfl
      | succ k ih => rw [wn, ih, h]
    rw [th, th_zero h n, hw]
    simp

/-- m terms from place n on -/
def seg (kb tb : Nat → Nat) (n : Nat) : Nat → Nat
  | 0 => 0
  | m + 1 => if tb (n + m) = 1 then seg kb tb n m ^^^ wn kb (n + m) 32 else seg kb tb n m
theorem th_seg (kb tb : Nat → Nat) (n : Nat) : ∀ m, th kb tb (n + m) = th kb tb n ^^^ seg kb tb n m
  | 0 => by simp [seg]
  | m + 1 => by
    rw [← Nat.add_assoc, th, seg, th_seg kb tb n m]
    split
    · rw [Nat.xor_assoc]
    · rfl
theorem seg_eq {kb s t : Nat → Nat} {i j : Nat} : ∀ {m : Nat}, (∀ k, k < m → s (i + k) = t (j + k)) → (∀ k, k < m → wn kb (i + k) 32 = wn kb (j + k) 32) → seg kb s i m = seg kb t j m
  | 0, _, _ => rfl
  | m + 1, h, g => by rw [seg, seg, seg_eq (fun k hk => h k (by omega)) (fun k hk => g k (by omega)), h m (by omega), g m (by omega)]
/-- a pair's bytes, and those of the same pair turned about -/
theorem th_turned {kb s t : Nat → Nat} (hk : ∀ i, i < 304 → kb (i + 16) = kb i)
    (h0 : ∀ k, k < 32 → t (0 + k) = s (32 + k)) (h1 : ∀ k, k < 32 → t (32 + k) = s (0 + k)) (h2 : ∀ k, k < 16 → t (64 + k) = s (80 + k)) (h3 : ∀ k, k < 16 → t (80 + k) = s (64 + k)) :
    th kb s 96 = th kb t 96 := by
  have w16 : ∀ i, i < 250 → wn kb (i + 16) 32 = wn kb i 32 := fun i hi => wn_eq (fun m hm => by rw [show i + 16 + m = i + m + 16 by omega, hk (i + m) (by omega)])
  have w32 : ∀ i, i < 230 → wn kb (i + 32) 32 = wn kb i 32 := fun i hi => by rw [show i + 32 = i + 16 + 16 by omega, w16 (i + 16) (by omega), w16 i (by omega)]
  have e : ∀ x, th kb x 96 = seg kb x 0 32 ^^^ seg kb x 32 32 ^^^ seg kb x 64 16 ^^^ seg kb x 80 16 := fun x => by
    rw [show 96 = 80 + 16 from rfl, th_seg, show 80 = 64 + 16 from rfl, th_seg, show 64 = 32 + 32 from rfl, th_seg, show 32 = 0 + 32 from rfl, th_seg]
    simp only [th, Nat.zero_xor, Nat.zero_add]
  have a0 : seg kb t 0 32 = seg kb s 32 32 := seg_eq h0 (fun k hk => by rw [Nat.add_comm 32 k, w32 k (by omega), Nat.zero_add])
  have a1 : seg kb t 32 32 = seg kb s 0 32 := seg_eq h1 (fun k hk => by rw [Nat.add_comm 32 k, w32 k (by omega), Nat.zero_add])
  have a2 : seg kb t 64 16 = seg kb s 80 16 := seg_eq h2 (fun k hk => by rw [show 80 + k = 64 + k + 16 by omega, w16 (64 + k) (by omega)])
  have a3 : seg kb t 80 16 = seg kb s 64 16 := seg_eq h3 (fun k hk => by rw [show 80 + k = 64 + k + 16 by omega, w16 (64 + k) (by omega)])
  rw [e, e, a0, a1, a2, a3, Nat.xor_comm (seg kb s 32 32), Nat.xor_assoc (seg kb s 0 32 ^^^ seg kb s 32 32), Nat.xor_assoc (seg kb s 0 32 ^^^ seg kb s 32 32), Nat.xor_comm (seg kb s 80 16)]

/-- a text's byte, its bits -/
def bt (s : ByteArray) (j : Nat) : Nat := if h : j < s.size then s[j].toNat else 0
def gb (s : ByteArray) (i : Nat) : Nat := bt s (i / 8) / 2 ^ (7 - i % 8) % 2
theorem bt_lt (s : ByteArray) (j : Nat) : bt s j < 256 := by
  unfold bt
  split
  · exact UInt8.toNat_lt _
  · decide
theorem gb_lt (s : ByteArray) (i : Nat) : gb s i < 2 := Nat.mod_lt _ (by decide)
theorem wn_byte (s : ByteArray) (j : Nat) : wn (gb s) (8 * j) 8 = bt s j := by
  have l := bt_lt s j
  simp only [wn, gb]
  rw [show (8 * j + 0) / 8 = j by omega, show (8 * j + 1) / 8 = j by omega, show (8 * j + 2) / 8 = j by omega, show (8 * j + 3) / 8 = j by omega, show (8 * j + 4) / 8 = j by omega, show (8 * j + 5) / 8 = j by omega, show (8 * j + 6) / 8 = j by omega, show (8 * j + 7) / 8 = j by omega]
  rw [show 7 - (8 * j + 0) % 8 = 7 by omega, show 7 - (8 * j + 1) % 8 = 6 by omega, show 7 - (8 * j + 2) % 8 = 5 by omega, show 7 - (8 * j + 3) % 8 = 4 by omega, show 7 - (8 * j + 4) % 8 = 3 by omega, show 7 - (8 * j + 5) % 8 = 2 by omega, show 7 - (8 * j + 6) % 8 = 1 by omega, show 7 - (8 * j + 7) % 8 = 0 by omega]
  omega
theorem wn_first (s : ByteArray) : wn (gb s) 0 32 = bt s 0 * 16777216 + bt s 1 * 65536 + bt s 2 * 256 + bt s 3 := by
  have e0 := wn_byte s 0
  have e1 := wn_byte s 1
  have e2 := wn_byte s 2
  have e3 := wn_byte s 3
  have a := wn_add (gb s) 0 8 24
  have b := wn_add (gb s) 8 8 16
  have c := wn_add (gb s) 16 8 8
  simp only [Nat.reduceAdd, Nat.reducePow, Nat.reduceMul, Nat.zero_add, Nat.mul_zero, Nat.mul_one] at *
  rw [a, b, c, e0, e1, e2, e3]
  omega
theorem gb_shift {s t : ByteArray} {a b n : Nat} (h : ∀ j, j < n → bt t (a + j) = bt s (b + j)) : ∀ k, k < 8 * n → gb t (8 * a + k) = gb s (8 * b + k) := fun k hk => by
  unfold gb
  rw [show (8 * a + k) / 8 = a + k / 8 by omega, show (8 * b + k) / 8 = b + k / 8 by omega, h _ (by omega), show (8 * a + k) % 8 = (8 * b + k) % 8 by omega]
theorem div_xor (a b k : Nat) : (a ^^^ b) / 2 ^ k % 2 = (a / 2 ^ k % 2) ^^^ (b / 2 ^ k % 2) := by
  rw [← Nat.shiftRight_eq_div_pow, ← Nat.shiftRight_eq_div_pow, ← Nat.shiftRight_eq_div_pow, Nat.shiftRight_xor_distrib, ← Nat.pow_one 2, ← Nat.xor_mod_two_pow]
theorem gb_xor {s t d : ByteArray} {i : Nat} (h : bt d (i / 8) = bt s (i / 8) ^^^ bt t (i / 8)) : gb d i = gb s i ^^^ gb t i := by
  unfold gb
  rw [h, div_xor]
/-- the hash of a text by a key -/
def hsh (key text : ByteArray) : Nat := th (gb key) (gb text) (8 * text.size)
theorem hsh_lt (key text : ByteArray) : hsh key text < 4294967296 := th_lt (gb_lt key) _
theorem hsh_xor {key s t d : ByteArray} (hs : s.size = d.size) (ht : t.size = d.size) (h : ∀ j, j < d.size → bt d j = bt s j ^^^ bt t j) : hsh key s ^^^ hsh key t = hsh key d := by
  unfold hsh
  rw [hs, ht]
  exact th_xor (gb_lt s) (gb_lt t) (fun i hi => gb_xor (h _ (by omega)))
theorem hsh_zero {key text : ByteArray} (h : ∀ j, bt key j = 0) : hsh key text = 0 := th_zero (fun i => by unfold gb; rw [h]; simp) _

end Go.Proofs.Ytkhkobdbbffkbaa
