/- How options are read, a step at a time, without the program but for its texts. -/
import Derived.Test.YtefenejeppmfiaaIo6
namespace Go.Proofs.Ytefenejeppmfiaa

theorem optR_fuel : ∀ (f : Nat) (l : List UInt8), l.length ≤ f → optR f l = optR l.length l := by
  intro f
  induction f using Nat.strongRecOn with
  | ind f ih =>
    intro l hl
    match f, l, hl with
    | 0, [], _ => rfl
    | f + 1, [], _ => rfl
    | f + 1, c :: r, hl =>
      simp only [List.length_cons] at hl
      have e1 : optR f r = optR r.length r := ih f (by omega) r (by omega)
      simp only [List.length_cons, optR]
      split
      · rfl
      · split
        · rw [e1]
        · cases r with
          | nil => rfl
          | cons n r2 =>
            simp only [List.length_cons] at hl ⊢
            split
            · rfl
            · have hd : (r2.drop (n.toNat - 2)).length ≤ r2.length := by rw [List.length_drop]; omega
              rw [ih f (by omega) (r2.drop (n.toNat - 2)) (by omega), ih (r2.length + 1) (by omega) (r2.drop (n.toNat - 2)) (by omega)]
/-- what is read of a text -/
def optsR (s : ByteArray) : Option (List Opt) := optR s.size s.data.toList
theorem byteAt_cons (c : UInt8) (r : List UInt8) : byteAt (c :: r) 0 = c.toNat := by simp [byteAt]
theorem byteAt_cons1 (c n : UInt8) (r : List UInt8) : byteAt (c :: n :: r) 1 = n.toNat := by simp [byteAt]
theorem list_drop (s : ByteArray) (k : Nat) : (s.extract k s.size).data.toList = s.data.toList.drop k := by
  rw [Lib.extract_data, List.take_of_length_le (by rw [List.length_drop, Lib.size_eq]; exact Nat.le_refl _)]
theorem optsR_drop (s : ByteArray) (k : Nat) : optsR (s.extract k s.size) = optR (s.data.toList.drop k).length (s.data.toList.drop k) := by
  unfold optsR
  rw [Lib.size_eq, list_drop]
theorem optsR_end {s : ByteArray} (h : s.size = 0 ∨ byteAt s.data.toList 0 = 0) : optsR s = some [] := by
  unfold optsR
  have l := Lib.size_eq s
  match hs : s.data.toList with
  | [] => rw [hs] at l; rw [l]; rfl
  | c :: r =>
    rw [hs] at l h
    rw [byteAt_cons] at h
    simp only [List.length_cons] at l
    rw [l]
    simp only [optR]
    rw [if_pos (by omega)]
theorem optsR_one {s : ByteArray} (h0 : 1 ≤ s.size) (h : byteAt s.data.toList 0 = 1) : optsR s = (optsR (s.extract 1 s.size)).map (fun l => (1, []) :: l) := by
  rw [optsR_drop]
  unfold optsR
  have l := Lib.size_eq s
  match hs : s.data.toList with
  | [] => rw [hs] at l; simp only [List.length_nil] at l; omega
  | c :: r =>
    rw [hs] at l h
    rw [byteAt_cons] at h
    simp only [List.length_cons] at l
    rw [l]
    simp only [optR]
    rw [if_neg (by omega), if_pos h]
    rfl
theorem optsR_bad {s : ByteArray} (h0 : 1 ≤ s.size) (h1 : byteAt s.data.toList 0 ≠ 0) (h2 : byteAt s.data.toList 0 ≠ 1) (hb : foBad s) : optsR s = none := by
  unfold optsR
  unfold foBad at hb
  have l := Lib.size_eq s
  match hs : s.data.toList with
  | [] => rw [hs] at l; simp only [List.length_nil] at l; omega
  | [c] =>
    rw [hs] at l h1 h2
    rw [byteAt_cons] at h1 h2
    simp only [List.length_cons, List.length_nil] at l
    rw [l]
    simp only [optR]
    rw [if_neg h1, if_neg h2]
  | c :: n :: r =>
    rw [hs] at l h1 h2 hb
    rw [byteAt_cons] at h1 h2
    rw [byteAt_cons1] at hb
    simp only [List.length_cons] at l
    rw [l]
    simp only [optR]
    rw [if_neg h1, if_neg h2, if_pos (by omega)]
theorem optsR_more {s : ByteArray} (h1 : byteAt s.data.toList 0 ≠ 0) (h2 : byteAt s.data.toList 0 ≠ 1) (hb : ¬ foBad s) :
    optsR s = (optsR (s.extract (byteAt s.data.toList 1) s.size)).map (fun l => Po.op (byteAt s.data.toList 0, s.extract 2 (byteAt s.data.toList 1)) :: l) := by
  rw [optsR_drop]
  unfold optsR
  obtain ⟨g1, g2, g3⟩ : 2 ≤ s.size ∧ 2 ≤ byteAt s.data.toList 1 ∧ byteAt s.data.toList 1 ≤ s.size := Classical.byContradiction hb
  have l := Lib.size_eq s
  have eD : (s.extract 2 (byteAt s.data.toList 1)).data.toList = (s.data.toList.drop 2).take (byteAt s.data.toList 1 - 2) := Lib.extract_data _ _ _
  unfold Po.op
  simp only [eD]
  match hs : s.data.toList with
  | [] => rw [hs] at l; simp only [List.length_nil] at l; omega
  | [c] => rw [hs] at l; simp only [List.length_cons, List.length_nil] at l; omega
  | c :: n :: r =>
    rw [hs] at l h1 h2 g2 g3
    rw [byteAt_cons] at h1 h2
    rw [byteAt_cons1] at g2 g3
    simp only [List.length_cons] at l
    rw [l, byteAt_cons, byteAt_cons1]
    simp only [optR]
    rw [if_neg h1, if_neg h2, if_neg (by omega)]
    obtain ⟨m, hm⟩ : ∃ m, n.toNat = m + 2 := ⟨n.toNat - 2, by omega⟩
    rw [hm]
    have e2 : (c :: n :: r).drop (m + 2) = r.drop m := rfl
    rw [e2, show m + 2 - 2 = m by omega, optR_fuel (r.length + 1) (r.drop m) (by rw [List.length_drop]; omega)]
    rfl

end Go.Proofs.Ytefenejeppmfiaa
