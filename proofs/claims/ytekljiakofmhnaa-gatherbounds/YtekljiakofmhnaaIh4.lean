/- The contracts of package ip4's hasKept and read, over the loaded program; no memory that was there has turned. Conditions: texts of bounded length. -/
import Derived.Test.YtekljiakofmhnaaIh3
namespace Go.Proofs.Ytekljiakofmhnaa
open Go.RowKit

theorem and_two_pow' (x i : Nat) : x &&& 2 ^ i = (x / 2 ^ i % 2) * 2 ^ i := by
  apply Nat.eq_of_testBit_eq
  intro j
  rw [Nat.testBit_and, Nat.testBit_two_pow]
  by_cases h : x / 2 ^ i % 2 = 1
  · rw [h, Nat.one_mul, Nat.testBit_two_pow]
    by_cases e : i = j
    · subst e; rw [Nat.testBit_eq_decide_div_mod_eq, h]; rfl
    · rw [decide_eq_false e, Bool.and_false]
  · have h0 : x / 2 ^ i % 2 = 0 := by omega
    rw [h0, Nat.zero_mul, Nat.zero_testBit]
    by_cases e : i = j
    · subst e; rw [Nat.testBit_eq_decide_div_mod_eq, h0]; rfl
    · rw [decide_eq_false e, Bool.and_false]
theorem bit_hold (x : Nat) : (((x &&& 16384 : Nat) : Int) != 0) = decide (16384 ≤ x % 32768) := by
  have e := and_two_pow' x 14
  simp only [Nat.reducePow] at e
  rw [e, Bool.eq_iff_iff]
  simp
  omega
theorem bit_more (x : Nat) : (((x &&& 8192 : Nat) : Int) != 0) = decide (8192 ≤ x % 16384) := by
  have e := and_two_pow' x 13
  simp only [Nat.reducePow] at e
  rw [e, Bool.eq_iff_iff]
  simp
  omega
theorem bit_kept (x : Nat) (h : x < 65536) : (((x &&& 32768 : Nat) : Int) != 0) = decide (32768 ≤ x) := by
  have e := and_two_pow' x 15
  simp only [Nat.reducePow] at e
  rw [e, Bool.eq_iff_iff]
  simp
  omega
theorem and_8191 (x : Nat) : x &&& 8191 = x % 8192 := Nat.and_two_pow_sub_one_eq_mod x 13

/-- the head of n bytes that a text begins with, as it is in memory -/
def readR (s : ByteArray) (n : Nat) : Rh := ⟨byteAt s.data.toList 1, twoAt s.data.toList 4, decide (16384 ≤ twoAt s.data.toList 6 % 32768), decide (8192 ≤ twoAt s.data.toList 6 % 16384), ((twoAt s.data.toList 6 % 8192 : Nat) : Int) * 8, byteAt s.data.toList 8, byteAt s.data.toList 9, fourAt s.data.toList 12, fourAt s.data.toList 16, s.extract 20 n⟩
theorem readR_hd (s : ByteArray) (n : Nat) : (readR s n).hd = readHd s.data.toList n := by
  unfold readR Rh.hd readHd
  rw [Lib.extract_eq, show (((twoAt s.data.toList 6 % 8192 : Nat) : Int) * 8).toNat = 8 * (twoAt s.data.toList 6 % 8192) by omega]
theorem fourAt_lt (l : List UInt8) (k : Nat) : fourAt l k < 4294967296 := by
  unfold fourAt
  have h := num_lt ((l.drop k).take 4)
  have hl : ((l.drop k).take 4).length ≤ 4 := by rw [List.length_take]; omega
  exact Nat.lt_of_lt_of_le h (Nat.le_trans (Nat.pow_le_pow_right (by omega) hl) (by decide))
theorem byte_fld {s : ByteArray} {k : Nat} (h : k < s.size) : num (fld s k 1) = byteAt s.data.toList k := by
  have hl := fld_length (s := s) (k := k) (n := 1) (by omega)
  obtain ⟨x, hx⟩ := list1 _ hl
  rw [hx]
  have hk : k < s.data.toList.length := by rw [← Lib.size_eq]; exact h
  have e : (s.data.toList.drop k).take 1 = [x] := hx
  rw [List.drop_eq_getElem_cons hk] at e
  simp only [List.take_succ_cons, List.take_zero, List.cons.injEq, and_true] at e
  unfold byteAt
  rw [List.getD_eq_getElem?_getD, List.getElem?_eq_getElem hk, e, num_cons, num_nil]
  simp

theorem below_set10 {w0 w : World} {b : Nat} (h : Below w0.heap.size w0 w) (hb : w0.heap.size ≤ b) (a0 a1 a2 a3 a4 a5 a6 a7 a8 a9 : Value) :
    Below w0.heap.size w0 ((((((((((w.setCell ⟨b, 0, none⟩ a0).setCell ⟨b, 1, none⟩ a1).setCell ⟨b, 2, none⟩ a2).setCell ⟨b, 3, none⟩ a3).setCell ⟨b, 4, none⟩ a4).setCell ⟨b, 5, none⟩ a5).setCell ⟨b, 6, none⟩ a6).setCell ⟨b, 7, none⟩ a7).setCell ⟨b, 8, none⟩ a8).setCell ⟨b, 9, none⟩ a9) :=
  (((((below_set5 h hb a0 a1 a2 a3 a4).setCell (p := ⟨b, 5, none⟩) hb _).setCell (p := ⟨b, 6, none⟩) hb _).setCell (p := ⟨b, 7, none⟩) hb _).setCell (p := ⟨b, 8, none⟩) hb _).setCell (p := ⟨b, 9, none⟩) hb _
abbrev z10 : List Value := [.int .u8 0, .int .u16 0, .bool false, .bool false, .int .i64 0, .int .u8 0, .int .u8 0, .int .u32 0, .int .u32 0, .string ⟨#[]⟩]

end Go.Proofs.Ytekljiakofmhnaa
