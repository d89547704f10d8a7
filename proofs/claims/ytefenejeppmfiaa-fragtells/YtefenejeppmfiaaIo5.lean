/- firstOption of package ip4, over the loaded program; no memory that was there has turned. -/
import Derived.Test.YtefenejeppmfiaaIo4
namespace Go.Proofs.Ytefenejeppmfiaa
open Go.RowKit

abbrev foFs (p q : Nat) : List Value := [.func (.func 79) #[] #[.pointer (some ⟨p, 0, none⟩)], .func (.func 80) #[] #[.pointer (some ⟨p, 0, none⟩), .pointer (some ⟨q, 0, none⟩)]]
/-- the call's own blocks: the text, what is answered, the option, its length, the two closures -/
def foT (B : Nat) (s : ByteArray) (K : Nat) (n : Int) : Nat → Nat → Option Value :=
  add (add (add (add (add (fun _ _ => none) 0 [.string s]) 1 [.int .u8 0, .string ⟨#[]⟩]) 2 [.int .u8 (K : Int), .string ⟨#[]⟩]) 3 [.int .i64 n]) 4 (foFs B (B + 3))
theorem foT_set (B : Nat) (s : ByteArray) (K : Nat) (n m : Int) : ∀ b j v, foT B s K m b j = some v → upd (foT B s K n) 3 0 (.int .i64 m) b j = some v := by
  intro b j v h
  unfold upd
  by_cases hb : b = 3 ∧ j = 0
  · rw [if_pos hb]
    obtain ⟨rfl, rfl⟩ := hb
    exact h
  · rw [if_neg hb]
    unfold foT at h ⊢
    unfold add at h ⊢
    by_cases h4 : b = 4
    · rw [if_pos h4] at h ⊢; exact h
    · rw [if_neg h4] at h ⊢
      by_cases h3 : b = 3
      · rw [if_pos h3] at h ⊢
        cases j with
        | zero => exact absurd ⟨h3, rfl⟩ hb
        | succ j => simp at h
      · rw [if_neg h3] at h ⊢; exact h
/-- the option's length is told wrong -/
def foBad (s : ByteArray) : Prop := ¬ (2 ≤ s.size ∧ 2 ≤ byteAt s.data.toList 1 ∧ byteAt s.data.toList 1 ≤ s.size)
instance (s : ByteArray) : Decidable (foBad s) := by unfold foBad; infer_instance

theorem fwfst_any (s : ByteArray) (K : Nat) (w W : World) (k : Tab w 5 (foT w.heap.size s K 0) W) :
    Calls Try.prog 28 #[.slice (some ⟨w.heap.size + 4, 0, none⟩) 2 2] W fun e w' => e = .returned (.int .i64 (if foBad s then 102 else 0)) ∧ Tab w 0 (fun _ _ => none) w' ∧ ∃ n : Int, Tab w 5 (foT w.heap.size s K n) w' ∧ (¬ foBad s → n = (byteAt s.data.toList 1 : Nat)) := by
  have c40 : ∀ n w', Tab w 5 (foT w.heap.size s K n) w' → w'.cell? ⟨w.heap.size + 4, 0, none⟩ = some (.func (.func 79) #[] #[.pointer (some ⟨w.heap.size, 0, none⟩)]) := fun n w' k' => k'.cells 4 0 _ rfl
  have c41 : ∀ n w', Tab w 5 (foT w.heap.size s K n) w' → w'.cell? ⟨w.heap.size + 4, 1, none⟩ = some (.func (.func 80) #[] #[.pointer (some ⟨w.heap.size, 0, none⟩), .pointer (some ⟨w.heap.size + 3, 0, none⟩)]) := fun n w' k' => k'.cells 4 1 _ rfl
  have O1 : ∀ w', Tab w 5 (foT w.heap.size s K 0) w' → Calls Try.prog 79 #[.pointer (some ⟨w.heap.size, 0, none⟩)] w' fun e w'' => e = .returned (.int .i64 (if 2 ≤ s.size then 0 else 102)) ∧ Tab w 5 (foT w.heap.size s K 0) w'' := fun w' k' =>
    (fst1_any s w.heap.size w' (k'.cells 0 0 _ rfl) _ rfl).mono fun _ _ x => ⟨x.1, x.2 ▸ k'⟩
  have Z : ∀ n w', Tab w 5 (foT w.heap.size s K n) w' → Tab w 0 (fun _ _ => none) w' := fun n w' k' => ⟨k'.bel, k'.bel.size, (fun _ _ _ e => by cases e), (fun _ _ _ e => by cases e), (fun _ _ _ e => by cases e)⟩
  by_cases h1 : 2 ≤ s.size
  · rw [if_pos h1] at O1
    have O2 : ∀ w', Tab w 5 (foT w.heap.size s K 0) w' → Calls Try.prog 80 #[.pointer (some ⟨w.heap.size, 0, none⟩), .pointer (some ⟨w.heap.size + 3, 0, none⟩)] w' fun e w'' => e = .returned (.int .i64 (if 2 ≤ byteAt s.data.toList 1 ∧ byteAt s.data.toList 1 ≤ s.size then 0 else 102)) ∧ Tab w 5 (foT w.heap.size s K (byteAt s.data.toList 1 : Nat)) w'' := fun w' k' =>
      (fst2_any s w.heap.size (w.heap.size + 3) w' _ h1 _ rfl (by omega) (k'.cells 0 0 _ rfl) (k'.cells 3 0 _ rfl) (k'.free 3 0 _ rfl) _ rfl).mono fun _ _ x => ⟨x.1, by
        rw [x.2]
        exact (k'.set 3 0 _ (.int .i64 (byteAt s.data.toList 1 : Nat)) rfl).as (foT_set _ s K 0 _)⟩
    by_cases h2 : 2 ≤ byteAt s.data.toList 1 ∧ byteAt s.data.toList 1 ≤ s.size
    · rw [if_pos h2] at O2
      rw [if_neg (show ¬ foBad s from fun c => c ⟨h1, h2⟩)]
      exact (fwFst_ok (w.heap.size + 4) w.heap.size w.heap.size (w.heap.size + 3) _ _ _ (c40 0) O1 (c41 0) O2 W k).mono fun _ _ x => ⟨x.1, Z _ _ x.2, _, x.2, fun _ => rfl⟩
    · rw [if_neg h2] at O2
      have hb : foBad s := fun c => h2 c.2
      rw [if_pos hb]
      exact (fwFst_1 (w.heap.size + 4) w.heap.size w.heap.size (w.heap.size + 3) _ _ _ 102 (c40 0) O1 (c41 0) O2 rfl W k).mono fun _ _ x => ⟨x.1, Z _ _ x.2, _, x.2, fun c => absurd hb c⟩
  · rw [if_neg h1] at O1
    have hb : foBad s := fun c => h1 c.1
    rw [if_pos hb]
    exact (fwFst_0 (w.heap.size + 4) w.heap.size _ _ 102 (c40 0) O1 rfl W k).mono fun _ _ x => ⟨x.1, Z _ _ x.2, _, x.2, fun c => absurd hb c⟩

end Go.Proofs.Ytefenejeppmfiaa
