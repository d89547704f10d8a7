/- Options' bytes read from a place on (layer 10): the reading, step by step. No program in it but the texts it imports. -/
import Derived.Test.YtefenejeppmfiaaOq10
namespace Go.Proofs.Ytefenejeppmfiaa
open Go.RowKit

theorem tl_size {s : ByteArray} {p : Nat} : (s.extract p s.size).size = s.size - p := by rw [ByteArray.size_extract]; omega
theorem tl_byte (s : ByteArray) (p j : Nat) : byteAt (s.extract p s.size).data.toList j = byteAt s.data.toList (p + j) := by
  rw [list_drop]
  unfold byteAt
  rw [List.getD_eq_getElem?_getD, List.getElem?_drop, ← List.getD_eq_getElem?_getD]
theorem tl_tl (s : ByteArray) (p n : Nat) : (s.extract p s.size).extract n (s.extract p s.size).size = s.extract (p + n) s.size := by
  refine list_ba ?_
  rw [list_drop, list_drop, list_drop, List.drop_drop]
theorem tl_mid (s : ByteArray) (p n : Nat) : (s.extract p s.size).extract 2 n = s.extract (p + 2) (p + n) := by
  refine list_ba ?_
  rw [Lib.extract_data, list_drop, Lib.extract_data, List.drop_drop]
  congr 1
  omega
theorem R_end {s : ByteArray} {p : Nat} (_ : p ≤ s.size) (h : p = s.size ∨ byteAt s.data.toList p = 0) : optsR (s.extract p s.size) = some [] := by
  refine optsR_end ?_
  rcases h with h | h
  · exact .inl (by rw [tl_size]; omega)
  · exact .inr (by rw [tl_byte]; exact h)
theorem R_one {s : ByteArray} {p : Nat} (hp : p < s.size) (h : byteAt s.data.toList p = 1) : optsR (s.extract p s.size) = (optsR (s.extract (p + 1) s.size)).map (fun l => Po.op (1, ⟨#[]⟩) :: l) := by
  rw [optsR_one (by rw [tl_size]; omega) (by rw [tl_byte]; exact h), tl_tl]
  rfl
theorem bad_iff {s : ByteArray} {p : Nat} (hp : p < s.size) : foBad (s.extract p s.size) ↔ ¬ (p + 2 ≤ s.size ∧ 2 ≤ byteAt s.data.toList (p + 1) ∧ p + byteAt s.data.toList (p + 1) ≤ s.size) := by
  unfold foBad
  rw [tl_size, tl_byte]
  constructor
  · intro h k; exact h ⟨by omega, k.2.1, by omega⟩
  · intro h k; exact h ⟨by omega, k.2.1, by omega⟩
theorem R_bad {s : ByteArray} {p : Nat} (hp : p < s.size) (h0 : byteAt s.data.toList p ≠ 0) (h1 : byteAt s.data.toList p ≠ 1) (hb : ¬ (p + 2 ≤ s.size ∧ 2 ≤ byteAt s.data.toList (p + 1) ∧ p + byteAt s.data.toList (p + 1) ≤ s.size)) : optsR (s.extract p s.size) = none :=
  optsR_bad (by rw [tl_size]; omega) (by rw [tl_byte]; exact h0) (by rw [tl_byte]; exact h1) ((bad_iff hp).2 hb)
theorem R_more {s : ByteArray} {p : Nat} (hp : p < s.size) (h0 : byteAt s.data.toList p ≠ 0) (h1 : byteAt s.data.toList p ≠ 1) (hb : p + 2 ≤ s.size ∧ 2 ≤ byteAt s.data.toList (p + 1) ∧ p + byteAt s.data.toList (p + 1) ≤ s.size) :
    optsR (s.extract p s.size) = (optsR (s.extract (p + byteAt s.data.toList (p + 1)) s.size)).map (fun l => Po.op (byteAt s.data.toList p, s.extract (p + 2) (p + byteAt s.data.toList (p + 1))) :: l) := by
  have h := optsR_more (s := s.extract p s.size) (by rw [tl_byte]; exact h0) (by rw [tl_byte]; exact h1) (fun c => (bad_iff hp).1 c hb)
  rw [tl_byte, tl_byte, tl_tl, tl_mid] at h
  exact h
end Go.Proofs.Ytefenejeppmfiaa
