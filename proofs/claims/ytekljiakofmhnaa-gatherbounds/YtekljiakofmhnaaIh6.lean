/- The contract of package ip4's Pass, over the loaded program; no memory that was there has turned. Conditions: texts of bounded length. -/
import Derived.Test.YtekljiakofmhnaaIh5
namespace Go.Proofs.Ytekljiakofmhnaa
open Go.RowKit

theorem twoAt_bytes {l : List UInt8} {k : Nat} (h : k + 1 < l.length) : twoAt l k = 256 * byteAt l k + byteAt l (k + 1) := by
  unfold twoAt byteAt
  rw [List.drop_eq_getElem_cons (by omega), List.take_succ_cons, List.drop_eq_getElem_cons h, List.take_succ_cons, List.take_zero, num_cons, num_cons, num_nil]
  simp only [List.getD_eq_getElem?_getD, List.getElem?_eq_getElem (show k < l.length by omega), List.getElem?_eq_getElem h, Option.getD_some]
  simp
  omega
theorem w64 {x : Int} (h0 : 0 ≤ x) (h1 : x < 9223372036854775808) : wrap64 x = x := by unfold wrap64; omega
/-- what is passed on -/
def passL (s : ByteArray) : List UInt8 :=
  s.data.toList.take 8 ++ ofB (twoAt s.data.toList 8 - 256) 2 ++ ofB (turn (twoAt s.data.toList 10) (twoAt s.data.toList 8) (twoAt s.data.toList 8 - 256)) 2 ++ ((s.data.toList.drop 12).take (hN s - 12)) ++ (s.extract (hN s) (pN s)).data.toList
def passE (s : ByteArray) : Int := if decE s = 0 then if byteAt s.data.toList 8 ≤ 1 then 9 else 0 else decE s
def passV (s : ByteArray) : Value := if passE s = 0 then .tuple #[.string ⟨(passL s).toArray⟩, .int .i64 0] else .tuple #[.string ⟨#[]⟩, .int .i64 (passE s)]
theorem decE_mea {s : ByteArray} (h : decE s = 0) : meaR s = 0 := by
  apply Classical.byContradiction
  intro hn
  unfold decE at h
  rw [if_neg hn] at h
  exact hn h

theorem passE_ok {s : ByteArray} (h : passE s = 0) : decE s = 0 ∧ 2 ≤ byteAt s.data.toList 8 := by
  unfold passE at h
  split at h
  · rename_i h1
    split at h
    · cases h
    · rename_i h2; exact ⟨h1, by omega⟩
  · rename_i h1; exact absurd h h1
theorem set_pass {s : ByteArray} (h : decE s = 0) : setL ((s.extract 0 (pN s)).data.toList) 8 (ofB (twoAt s.data.toList 8 - 256) 2 ++ ofB (turn (twoAt s.data.toList 10) (twoAt s.data.toList 8) (twoAt s.data.toList 8 - 256)) 2) = passL s := by
  obtain ⟨a1, a2, a3, a4, a5, a6⟩ := meaR_ok (decE_mea h)
  unfold setL passL
  rw [Lib.extract_eq, Lib.extract_eq, Nat.sub_zero, List.drop_zero]
  simp only [List.length_append, ofB_length]
  rw [List.take_take, Nat.min_eq_left (by omega)]
  have e : (List.take (pN s) s.data.toList).drop (8 + (2 + 2)) = (s.data.toList.drop 12).take (hN s - 12) ++ (s.data.toList.drop (hN s)).take (pN s - hN s) := by
    rw [List.drop_take]
    have : pN s - (8 + (2 + 2)) = (hN s - 12) + (pN s - hN s) := by omega
    rw [this, List.take_add, List.drop_drop]
    congr 3
    omega
  rw [e]
  simp only [List.append_assoc]

end Go.Proofs.Ytekljiakofmhnaa
