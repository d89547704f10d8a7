/- The contracts of package ip4's measure and its closures, over the loaded program; no memory that was there has turned. Conditions: texts of bounded length. -/
import Derived.Test.YtekljiakofmhnaaIh2
import Derived.WalkMore
import Derived.ScopeJumps
namespace Go.Proofs.Ytekljiakofmhnaa
open Go.RowKit

theorem ret_i64 {x y : Int} (h : x = y) : Ending.returned (.int .i64 x) = .returned (.int .i64 y) := by rw [h]
theorem byteAt_eq {s : ByteArray} {k : Nat} (h : k < s.size) : s[k].toNat = byteAt s.data.toList k := by
  unfold byteAt
  have h' : k < s.data.size := h
  rw [List.getD_eq_getElem?_getD, Array.getElem?_toList, Array.getElem?_eq_getElem h']
  rfl
theorem byteAt_lt (l : List UInt8) (k : Nat) : byteAt l k < 256 := UInt8.toNat_lt _
theorem twoAt_lt (l : List UInt8) (k : Nat) : twoAt l k < 65536 := by
  unfold twoAt
  have h := num_lt ((l.drop k).take 2)
  have hl : ((l.drop k).take 2).length ≤ 2 := by rw [List.length_take]; omega
  exact Nat.lt_of_lt_of_le h (Nat.le_trans (Nat.pow_le_pow_right (by omega) hl) (by decide))
/-- how many bytes the head says that it has, and the packet -/
def hN (s : ByteArray) : Nat := 4 * (byteAt s.data.toList 0 % 16)
def pN (s : ByteArray) : Nat := twoAt s.data.toList 2
theorem hN_le (s : ByteArray) : hN s ≤ 60 := by unfold hN; omega
theorem pN_lt (s : ByteArray) : pN s < 65536 := twoAt_lt _ _
theorem and15 (x : Nat) (h : x < 256) : bits .and .u8 (x : Int) 15 = ((x % 16 : Nat) : Int) := by
  rw [show (15 : Int) = ((15 : Nat) : Int) from rfl, u8_and_nat x 15 h (by omega), show 15 = 2 ^ 4 - 1 from rfl, Nat.and_two_pow_sub_one_eq_mod]

/-- what measure's closures find, where so many bytes must be there, and so many are told -/
def meaE (s : ByteArray) (T n : Nat) : Int := if n ≤ s.size then if byteAt s.data.toList 0 / 16 = 4 then if n ≤ T then 0 else 8 else 100 else 10

/-- what measure tells -/
def meaR (s : ByteArray) : Int := if meaE s (hN s) 20 = 0 then if meaE s (pN s) (hN s) = 0 then meaE s (pN s) (pN s) else meaE s (pN s) (hN s) else meaE s (hN s) 20
def meaV (s : ByteArray) : Value := if meaR s = 0 then .tuple #[.int .i64 (hN s : Nat), .int .i64 (pN s : Nat), .int .i64 0] else .tuple #[.int .i64 0, .int .i64 0, .int .i64 (meaR s)]
def MF (s : ByteArray) (B k : Nat) (a : Act) : Prop := ∃ u7 u8 u9 u10 u11 u12 u13 u14 u15 u16 u17 u18 u19 u20 u21 u22 u23 u24 u25 u26 u27 u28 u29 u30 : Value,
  a = { tmps := #[.string s, .pointer (some ⟨B, 0, none⟩), .pointer (some ⟨B + 1, 0, none⟩), .int .i64 (k : Int), .int .i64 0, .pointer (some ⟨B + 2, 0, none⟩), .pointer (some ⟨B + 3, 0, none⟩), u7, u8, u9, u10, u11, u12, u13, u14, u15, u16, u17, u18, u19, u20, u21, u22, u23, u24, u25, u26, u27, u28, u29, u30], defers := [] }
theorem meaE_zero {s : ByteArray} {T n : Nat} (h : meaE s T n = 0) : n ≤ s.size ∧ byteAt s.data.toList 0 / 16 = 4 ∧ n ≤ T := by
  unfold meaE at h
  split at h
  · rename_i h1
    split at h
    · rename_i h2
      split at h
      · rename_i h3; exact ⟨h1, h2, h3⟩
      · cases h
    · cases h
  · cases h
theorem bel_head0 {w w' : World} (h : Below w.heap.size w w') (v : Value) : Below w.heap.size w (w'.setCell ⟨w.heap.size + 1, 0, none⟩ v) := h.setCell (p := ⟨w.heap.size + 1, 0, none⟩) (Nat.le_succ _) _

end Go.Proofs.Ytekljiakofmhnaa
