/- The contracts of package ip4's option leaves (mayNot, optionSize, optionBytes, sizeOf) and of slices.ContainsFunc at them, over the loaded program; no memory that was there has turned. Conditions: numbers in their kinds' bounds, texts of bounded length. -/
import Derived.Test.YtekljiakofmhnaaIh2
import Derived.Test.YtekljiakofmhnaaIp1
namespace Go.Proofs.Ytekljiakofmhnaa
open Go.RowKit

abbrev Po := Nat × ByteArray
abbrev poV (x : Po) : Value := .agg #[.int .u8 (x.1 : Int), .string x.2]
def Po.op (x : Po) : Opt := (x.1, x.2.data.toList)
structure Po.In (x : Po) : Prop where
  k : x.1 < 256
  d : x.2.size ≤ 1048576
/-- the slice value holds the options L, in a block below n₀; or it is empty and there are none -/
def OptsAt (n₀ : Nat) (W : World) (sv : Value) (L : List Po) : Prop :=
  ((∃ a cap, sv = .slice a 0 cap) ∧ L = []) ∨ ∃ b off cap, sv = .slice (some ⟨b, off, none⟩) L.length cap ∧ b < n₀ ∧ ∀ k x, L[k]? = some x → W.cell? ⟨b, off + k * 2, none⟩ = some (.int .u8 (x.1 : Int)) ∧ W.cell? ⟨b, off + k * 2 + 1, none⟩ = some (.string x.2)
theorem OptsAt.below {n₀ : Nat} {A B : World} (h : Below n₀ A B) {sv : Value} {L : List Po} : OptsAt n₀ A sv L → OptsAt n₀ B sv L
  | .inl e => .inl e
  | .inr ⟨b, off, cap, e, hb, hc⟩ => .inr ⟨b, off, cap, e, hb, fun k x hk => ⟨(h.cell (p := ⟨b, off + k * 2, none⟩) hb).trans (hc k x hk).1, (h.cell (p := ⟨b, off + k * 2 + 1, none⟩) hb).trans (hc k x hk).2⟩⟩
theorem OptsAt.slice {n₀ : Nat} {W : World} {sv : Value} {L : List Po} (h : OptsAt n₀ W sv L) : ∃ a cap, sv = .slice a L.length cap := by
  rcases h with ⟨⟨a, cap, rfl⟩, rfl⟩ | ⟨b, off, cap, rfl, _, _⟩ <;> exact ⟨_, _, rfl⟩

/-- may it not be? -/
def notB (x : Po) : Prop := x.1 = 0 ∨ (x.1 = 1 ∧ x.2.size ≠ 0)
instance (x : Po) : Decidable (notB x) := by unfold notB; infer_instance
theorem may_notB {x : Po} (h : ¬ notB x) : optMay x.op := by
  unfold notB at h
  unfold optMay Po.op
  by_cases h1 : x.1 = 1
  · refine .inl ⟨h1, ?_⟩
    have : x.2.size = 0 := Classical.byContradiction fun c => h (.inr ⟨h1, c⟩)
    exact List.eq_nil_of_length_eq_zero (by rw [← Lib.size_eq]; exact this)
  · refine .inr ?_
    have : x.1 ≠ 0 := fun c => h (.inl c)
    show 1 < x.1
    omega
theorem isEmpty_iff (s : ByteArray) : s.toList = [] ↔ s.size = 0 := by
  rw [Lib.toList_data, Lib.size_eq]
  exact List.length_eq_zero_iff.symm

/-- how many bytes options have -/
def poS (x : Po) : Nat := if x.1 = 1 then 1 else 2 + x.2.size
def sumS : List Po → Nat
  | [] => 0
  | x :: l => poS x + sumS l
theorem sumS_snoc (l : List Po) (x : Po) : sumS (l ++ [x]) = sumS l + poS x := by
  induction l with
  | nil => simp [sumS]
  | cons y l ih => simp only [List.cons_append, sumS, ih]; omega
theorem take_snoc' {α : Type} (l : List α) (k : Nat) (h : k < l.length) : l.take (k + 1) = l.take k ++ [l[k]] := by
  rw [List.take_succ_eq_append_getElem h]

/-- an option's bytes -/
def poB (x : Po) : ByteArray := ⟨(optB x.op).toArray⟩
theorem poB_one {x : Po} (h : x.1 = 1) : poB x = ⟨(ofB x.1 1).toArray⟩ := by
  unfold poB optB Po.op
  rw [if_pos (by simp only; omega)]
  rfl
theorem poB_many {x : Po} (h : 1 < x.1) : poB x = (⟨(ofB x.1 1).toArray⟩ : ByteArray) ++ ⟨(ofB (2 + x.2.size) 1).toArray⟩ ++ x.2 := by
  have e : x.2 = ⟨x.2.data.toList.toArray⟩ := rfl
  rw [e, str_append, str_append]
  unfold poB optB Po.op
  rw [if_neg (by simp only; omega)]
  have l : x.2.data.toList.length = x.2.size := (Lib.size_eq x.2).symm
  simp only [l]
  rw [show x.2.size + 2 = 2 + x.2.size by omega]
  rfl
theorem poB_size (x : Po) (h : optMay x.op) : (poB x).size = poS x := by
  unfold poB poS optB
  rw [arr_size]
  rcases h with ⟨h1, h2⟩ | h1
  · have h1' : x.1 = 1 := h1
    rw [if_pos (by omega), if_pos h1']; rfl
  · have h1' : 1 < x.1 := h1
    rw [if_neg (by omega), if_neg (by omega)]
    simp only [List.length_cons]
    unfold Po.op
    simp only
    rw [← Lib.size_eq]
    omega

/-- the first that may not be -/
def anyNot (L : List Po) : Prop := ∃ x ∈ L, notB x
instance (L : List Po) : Decidable (anyNot L) := by unfold anyNot; infer_instance

end Go.Proofs.Ytekljiakofmhnaa
