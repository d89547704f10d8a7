/- The law's options, the document's SameOpts, over the loaded program; no memory that was there has turned. -/
import Derived.Test.YtefenejeppmfiaaIo1
import Derived.Test.YtefenejeppmfiaaAl10
import Derived.Laws.StructEq
import Derived.Deep.QuietTactic
namespace Go.Proofs.Ytefenejeppmfiaa
open Go.RowKit

/-- how long options are, as the law reckons -/
def sumN : List Po → Nat
  | [] => 0
  | x :: l => 2 + x.2.size + sumN l
theorem sumN_snoc (l : List Po) (x : Po) : sumN (l ++ [x]) = sumN l + 2 + x.2.size := by
  induction l with
  | nil => simp [sumN]
  | cons y l ih => simp only [List.cons_append, sumN, ih]; omega
theorem sumN_le {l : List Po} {x : Po} (h : x ∈ l) : x.2.size ≤ sumN l := by
  induction l with
  | nil => cases h
  | cons y l ih =>
    rcases List.mem_cons.1 h with rfl | h
    · simp only [sumN]; omega
    · have := ih h; simp only [sumN]; omega
def manyB (L : List Po) : Prop := 60 < L.length ∨ 4096 < sumN (L.take 100)
instance (L : List Po) : Decidable (manyB L) := by unfold manyB; infer_instance
theorem few {L : List Po} (h : ¬ manyB L) : L.length ≤ 60 ∧ ∀ x ∈ L, x.2.size ≤ 4096 := by
  unfold manyB at h
  refine ⟨by omega, fun x hx => ?_⟩
  rw [List.take_of_length_le (by omega)] at h
  have := sumN_le hx
  omega

theorem po_stood : Try.prog.stoodInHeld 44 = false := by kernel_rfl
theorem po_str : Try.prog.underlying 44 = some (.struct (Try.prog.fieldsOf 44)) := by
  unfold Program.fieldsOf
  rw [Try.underlying44]
theorem po_eq (a b : Po) : (((a.1 : Int) == (b.1 : Int)) && (a.2.toList == b.2.toList)) = decide (a = b) := by
  obtain ⟨a1, a2⟩ := a
  obtain ⟨b1, b2⟩ := b
  rw [Bool.eq_iff_iff, decide_eq_true_iff]
  simp only [Bool.and_eq_true, beq_iff_eq, Int.natCast_inj, Prod.mk.injEq]
  have hs : a2.toList = b2.toList ↔ a2 = b2 := ⟨fun h => by rw [ByteArray.toList_eq, ByteArray.toList_eq] at h; exact list_ba h, fun h => by rw [h]⟩
  rw [hs]
set_option maxRecDepth 100000 in
theorem in_po (d : Nat) (a b : Po) (w : World) : (Op.equalIn (d + 2) 44 (poV a) (poV b)).run Try.prog w = .ok (decide (a = b)) w := by
  rw [run_equalIn_struct w (d + 1) 44 _ _ po_str po_stood]
  unfold Program.fieldsOf
  rw [Try.underlying44]
  have u8 := fun (x y : Int) (w : World) => run_equalIn_int w d 5 .u8 .u8 x y Try.underlying5
  have us := fun (x y : ByteArray) (w : World) => run_equalIn_string w d 9 x y Try.underlying9
  have g8 := Try.isAgg5
  have gs := Try.isAgg9
  rw [← po_eq]
  simp only [Op.eqFields]
  simp [part, u8, us, g8, gs]
  by_cases h1 : (a.1 : Int) = (b.1 : Int)
  case neg => simp [h1]
  simp only [h1, if_true, beq_self_eq_true, Bool.true_and]
  by_cases h9 : a.2.toList = b.2.toList <;> simp [h9]
theorem neq_po (a b : Po) (w : World) : (binOp .neq 44 (poV a) (poV b)).run Try.prog w = .ok (.bool (!decide (a = b))) w := by
  rw [run_neq_struct, in_po 9998 a b w]
  rfl

end Go.Proofs.Ytefenejeppmfiaa
