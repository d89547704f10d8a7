/- The order of texts byte by byte, and that unlike pairs have unlike bytes. No conditions but those that each line bears. -/
import Derived.Test.YtnglkadfnacmcaaDoorAl6
import Derived.Test.YtnglkadfnacmcaaDoorEq6
import Derived.Test.YtnglkadfnacmcaaDoorInp6
namespace Go.Proofs.YtnglkadfnacmcaaDoor
open Go.RowKit

theorem cmp_rng : ∀ x y : List UInt8, Lib.compareBytes x y = -1 ∨ Lib.compareBytes x y = 0 ∨ Lib.compareBytes x y = 1
  | [], [] => .inr (.inl rfl)
  | [], _ :: _ => .inl rfl
  | _ :: _, [] => .inr (.inr rfl)
  | a :: x, b :: y => by
    unfold Lib.compareBytes
    split
    · exact .inl rfl
    · split
      · exact .inr (.inr rfl)
      · exact cmp_rng x y
theorem cmp_neg : ∀ x y : List UInt8, Lib.compareBytes y x = - Lib.compareBytes x y
  | [], [] => rfl
  | [], _ :: _ => rfl
  | _ :: _, [] => rfl
  | a :: x, b :: y => by
    have ih := cmp_neg x y
    unfold Lib.compareBytes
    by_cases h1 : a < b
    · have h2 : ¬ b < a := fun h => absurd (UInt8.lt_trans h1 h) (UInt8.lt_irrefl a)
      simp [h1, h2]
    · by_cases h2 : b < a
      · simp [h1, h2]
      · simp [h1, h2, ih]
theorem cmp_zero : ∀ x y : List UInt8, Lib.compareBytes x y = 0 ↔ x = y
  | [], [] => by simp [Lib.compareBytes]
  | [], _ :: _ => by simp [Lib.compareBytes]
  | _ :: _, [] => by simp [Lib.compareBytes]
  | a :: x, b :: y => by
    have ih := cmp_zero x y
    unfold Lib.compareBytes
    by_cases h1 : a < b
    · have hne : a ≠ b := fun e => UInt8.lt_irrefl b (e ▸ h1)
      simp [h1, hne]
    · by_cases h2 : b < a
      · have hne : a ≠ b := fun e => UInt8.lt_irrefl b (e ▸ h2)
        simp [h1, h2, hne]
      · have e : a = b := UInt8.le_antisymm (UInt8.not_lt.1 h2) (UInt8.not_lt.1 h1)
        subst e
        simp [h1, ih]
theorem cmp_trans : ∀ x y z : List UInt8, Lib.compareBytes x y ≤ 0 → Lib.compareBytes y z ≤ 0 → Lib.compareBytes x z ≤ 0
  | [], _, [], _, _ => by simp [Lib.compareBytes]
  | [], _, _ :: _, _, _ => by simp [Lib.compareBytes]
  | _ :: _, [], _, h, _ => by simp [Lib.compareBytes] at h
  | _ :: _, _ :: _, [], _, h => by simp [Lib.compareBytes] at h
  | a :: x, b :: y, c :: z, h1, h2 => by
    have ih := cmp_trans x y z
    unfold Lib.compareBytes at h1 h2 ⊢
    by_cases hab : a < b
    · by_cases hbc : b < c
      · have := UInt8.lt_trans hab hbc
        simp [this]
      · by_cases hcb : c < b
        · simp [hbc, hcb] at h2
        · have e : b = c := UInt8.le_antisymm (UInt8.not_lt.1 hcb) (UInt8.not_lt.1 hbc)
          subst e
          simp [hab]
    · by_cases hba : b < a
      · simp [hab, hba] at h1
      · have e : a = b := UInt8.le_antisymm (UInt8.not_lt.1 hba) (UInt8.not_lt.1 hab)
        subst e
        by_cases hac : a < c
        · simp [hac]
        · by_cases hca : c < a
          · simp [hac, hca] at h2
          · simp only [hab, hac, hca, if_false] at h1 h2 ⊢
            exact ih h1 h2

theorem ptx_list (a p b q : Nat) : (ptx a p b q).data.toList = ofB a 4 ++ (ofB b 4 ++ (ofB p 2 ++ ofB q 2)) := rfl
theorem ofB_inj {x y n : Nat} (h : ofB x n = ofB y n) (hx : x < 256 ^ n) (hy : y < 256 ^ n) : x = y := by
  have e := congrArg num h
  rw [num_ofB, num_ofB, Nat.mod_eq_of_lt hx, Nat.mod_eq_of_lt hy] at e
  exact e
theorem ptx_inj {a p b q a' p' b' q' : Nat} (ha : a < 4294967296) (hp : p < 65536) (hb : b < 4294967296) (hq : q < 65536) (ha' : a' < 4294967296) (hp' : p' < 65536) (hb' : b' < 4294967296) (hq' : q' < 65536)
    (h : (ptx a p b q).data.toList = (ptx a' p' b' q').data.toList) : a = a' ∧ p = p' ∧ b = b' ∧ q = q' := by
  rw [ptx_list, ptx_list] at h
  obtain ⟨h1, h⟩ := List.append_inj h (by rw [ofB_length, ofB_length])
  obtain ⟨h2, h⟩ := List.append_inj h (by rw [ofB_length, ofB_length])
  obtain ⟨h3, h4⟩ := List.append_inj h (by rw [ofB_length, ofB_length])
  exact ⟨ofB_inj h1 ha ha', ofB_inj h3 hp hp', ofB_inj h2 hb hb', ofB_inj h4 hq hq'⟩
theorem ptx_eqP {a p b q a' p' b' q' : Nat} (ha : a < 4294967296) (hp : p < 65536) (hb : b < 4294967296) (hq : q < 65536) (ha' : a' < 4294967296) (hp' : p' < 65536) (hb' : b' < 4294967296) (hq' : q' < 65536) :
    ((ptx a p b q).toList == (ptx a' p' b' q').toList) = eqP a p b q a' p' b' q' := by
  unfold eqP
  rw [Lib.toList_data, Lib.toList_data, Bool.eq_iff_iff, beq_iff_eq, decide_eq_true_iff]
  constructor
  · exact ptx_inj ha hp hb hq ha' hp' hb' hq'
  · rintro ⟨rfl, rfl, rfl, rfl⟩
    rfl
theorem eqP_self (a p b q : Nat) : eqP a p b q a p b q = true := by simp [eqP]
theorem eqP_turn (a p b q : Nat) : eqP b q a p a p b q = decide (a = b ∧ p = q) := by
  unfold eqP
  rw [Bool.eq_iff_iff, decide_eq_true_iff, decide_eq_true_iff]
  constructor
  · rintro ⟨h1, h2, _, _⟩; exact ⟨h1.symm, h2.symm⟩
  · rintro ⟨h1, h2⟩; exact ⟨h1.symm, h2.symm, h1, h2⟩
theorem ext1 (a p b q : Nat) : (ptx a p b q).extract 4 8 = by4 b := rfl
theorem ext2 (a p b q : Nat) : (ptx a p b q).extract 0 4 = by4 a := rfl
theorem ext3 (a p b q : Nat) : (ptx a p b q).extract 10 12 = by2 q := rfl
theorem ext4 (a p b q : Nat) : (ptx a p b q).extract 8 10 = by2 p := rfl

end Go.Proofs.YtnglkadfnacmcaaDoor
