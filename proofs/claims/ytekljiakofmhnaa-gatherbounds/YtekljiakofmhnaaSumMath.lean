/- Plain facts on the Internet's sum, without the program: a sum brought below 65,536, bytes by twos, what a word that becomes another one does. No conditions but those that each line bears. -/
import Derived.Test.YtekljiakofmhnaaMath
namespace Go.Proofs.Ytekljiakofmhnaa

/-- The sum, brought to a word: 0 only of 0. -/
def red (n : Nat) : Nat := if n = 0 then 0 else (n - 1) % 65535 + 1
theorem red_zero : red 0 = 0 := rfl
theorem red_pos {n : Nat} (h : 0 < n) : red n = (n - 1) % 65535 + 1 := by unfold red; rw [if_neg (by omega)]
theorem red_le (n : Nat) : red n ≤ 65535 := by unfold red; split <;> omega
theorem red_small {n : Nat} (h : n ≤ 65535) : red n = n := by unfold red; split <;> omega
theorem red_step {n : Nat} (h : 65535 < n) : red (n / 65536 + n % 65536) = red n := by rw [red_pos (by omega), red_pos (by omega)]; omega
theorem red_sub {n : Nat} (h : 65535 < n) : red (n - 65535) = red n := by rw [red_pos (by omega), red_pos (by omega)]; omega
theorem red_add (m k : Nat) : red (red m + k) = red (m + k) := by
  by_cases hm : m = 0
  · subst hm; rfl
  · rw [red_pos (by omega : 0 < m), red_pos (by omega), red_pos (by omega)]; omega
theorem red_mod (n : Nat) : red n % 65535 = n % 65535 := by unfold red; split <;> omega
theorem red_eq_zero {n : Nat} : red n = 0 ↔ n = 0 := by unfold red; split <;> omega
theorem red_eq {a b : Nat} (h : a % 65535 = b % 65535) (h0 : a = 0 ↔ b = 0) : red a = red b := by unfold red; split <;> split <;> omega
theorem red_full {a : Nat} (h : a % 65535 = 0) (h0 : 0 < a) : red a = 65535 := by rw [red_pos h0]; omega

/-- The sum of a text's words, byte by byte: `true` at a word's second byte. -/
def ws : Bool → List UInt8 → Nat
  | _, [] => 0
  | false, c :: l => 256 * c.toNat + ws true l
  | true, c :: l => c.toNat + ws false l
def odd (l : List UInt8) : Bool := l.length % 2 == 1
theorem odd_cons (c : UInt8) (l : List UInt8) : odd (c :: l) = !odd l := by
  unfold odd; rw [List.length_cons]
  by_cases h : l.length % 2 = 1
  · rw [h, show (l.length + 1) % 2 = 0 from by omega]; rfl
  · rw [show l.length % 2 = 0 from by omega, show (l.length + 1) % 2 = 1 from by omega]; rfl
theorem ws_append (a b : List UInt8) : ∀ h : Bool, ws h (a ++ b) = ws h a + ws (h != odd a) b := by
  induction a with
  | nil => intro h; cases h <;> simp [ws, odd]
  | cons c a ih =>
    intro h
    cases h
    · rw [List.cons_append, ws, ws, ih, odd_cons]; cases odd a <;> simp <;> omega
    · rw [List.cons_append, ws, ws, ih, odd_cons]; cases odd a <;> simp <;> omega
def S (l : List UInt8) : Nat := ws false l
theorem S_nil : S [] = 0 := rfl
theorem S_append (a b : List UInt8) : S (a ++ b) = S a + ws (odd a) b := by unfold S; rw [ws_append]; cases odd a <;> rfl
theorem S_even {a b : List UInt8} (h : a.length % 2 = 0) : S (a ++ b) = S a + S b := by
  rw [S_append, show odd a = false from by unfold odd; rw [h]; rfl]; rfl
theorem S_snoc_even {l : List UInt8} (c : UInt8) (h : l.length % 2 = 0) : S (l ++ [c]) = S l + 256 * c.toNat := by
  rw [S_even h]; rfl
theorem S_snoc_odd {l : List UInt8} (c : UInt8) (h : l.length % 2 = 1) : S (l ++ [c]) = S l + c.toNat := by
  rw [S_append, show odd l = true from by unfold odd; rw [h]; rfl]; rfl
theorem ws_le (l : List UInt8) : ∀ h, ws h l ≤ 65536 * l.length := by
  induction l with
  | nil => intro h; cases h <;> simp [ws]
  | cons c l ih =>
    intro h
    have hc := c.toNat_lt
    cases h
    · have := ih true; rw [ws, List.length_cons]; omega
    · have := ih false; rw [ws, List.length_cons]; omega
theorem S_le (l : List UInt8) : S l ≤ 65536 * l.length := ws_le l false
theorem S_two (a b : UInt8) : S [a, b] = 256 * a.toNat + b.toNat := by simp [S, ws]
theorem S_ofB2 (x : Nat) (h : x < 65536) : S (ofB x 2) = x := by
  simp only [ofB, S_two, byt_toNat]
  omega

/-- A word in the place of another. -/
theorem S_word (p q : List UInt8) (a b : UInt8) (h : p.length % 2 = 0) : S (p ++ ([a, b] ++ q)) = S p + (256 * a.toNat + b.toNat) + S q := by
  rw [S_even h, S_even (a := [a, b]) (by simp), S_two]; omega

/-- The sum of a list of words. -/
abbrev W16 := { x : Nat // x < 65536 }
def sumW (l : List W16) : Nat := (l.map (·.1)).sum
theorem sumW_snoc (l : List W16) (x : W16) : sumW (l ++ [x]) = sumW l + x.1 := by simp [sumW]
theorem sumW_le (l : List W16) : sumW l ≤ 65535 * l.length := by
  induction l with
  | nil => simp [sumW]
  | cons x l ih =>
    have hx := x.2
    have e : sumW (x :: l) = x.1 + sumW l := by simp [sumW]
    rw [e, List.length_cons]; omega

/-- All texts as one. -/
def cat (l : List ByteArray) : List UInt8 := (l.map (·.data.toList)).flatten
theorem cat_nil : cat [] = [] := rfl
theorem cat_snoc (l : List ByteArray) (s : ByteArray) : cat (l ++ [s]) = cat l ++ s.data.toList := by simp [cat]
theorem cat_one (s : ByteArray) : cat [s] = s.data.toList := by simp [cat]
theorem cat_two (s t : ByteArray) : cat [s, t] = s.data.toList ++ t.data.toList := by simp [cat]
theorem cat_take_succ (l : List ByteArray) (k : Nat) (h : k < l.length) : cat (l.take (k + 1)) = cat (l.take k) ++ (l[k]?.getD ⟨#[]⟩).data.toList := by
  rw [List.take_succ_eq_append_getElem h, cat_snoc, List.getElem?_eq_getElem h]; rfl
theorem cat_take_le (l : List ByteArray) (k : Nat) : (cat (l.take k)).length ≤ (cat l).length := by
  have : cat l = cat (l.take k) ++ cat (l.drop k) := by
    unfold cat; rw [← List.flatten_append, ← List.map_append, List.take_append_drop]
  rw [this, List.length_append]; omega

end Go.Proofs.Ytekljiakofmhnaa
