/- Bytes that stand in a block and may be written; how they become a text. -/
import Derived.Test.YtkhkobdbbffkbaaLh
import Derived.Laws.IdiomStrings
namespace Go.Proofs.Ytkhkobdbbffkbaa
open Go.RowKit

/-- N bytes stand in a block from its beginning on, and may be written -/
structure RowB (w : World) (b N : Nat) (f : Nat → Nat) : Prop where
  cell : ∀ j, j < N → w.cell? ⟨b, j, none⟩ = some (.int .u8 (f j : Nat))
  free : ∀ j, j < N → w.frozen? ⟨b, j, none⟩ = false
  lt : b < w.heap.size
theorem RowB.set {w : World} {b N : Nat} {f g : Nat → Nat} (h : RowB w b N f) (k : Nat) (hk : k < N) (v : Nat) (hg : ∀ j, j < N → g j = if j = k then v else f j) : RowB (w.setCell ⟨b, k, none⟩ (.int .u8 (v : Nat))) b N g := by
  refine ⟨fun j hj => ?_, fun j hj => by rw [World.frozen?_setCell]; exact h.free j hj, by simpa using h.lt⟩
  rw [hg j hj]
  by_cases e : j = k
  · subst e
    rw [if_pos rfl]
    exact World.cell?_setCell_same _ _ _ (h.cell j hj)
  · have hne : (⟨b, k, none⟩ : Addr) ≠ ⟨b, j, none⟩ := fun x => e (by simpa using (congrArg Addr.off x).symm)
    rw [if_neg e]
    exact (World.cell?_setCell_other _ _ _ _ hne).trans (h.cell j hj)
theorem RowB.far {w : World} {b N : Nat} {f : Nat → Nat} (h : RowB w b N f) {i k : Nat} (hi : i ≠ b) (v : Value) : RowB (w.setCell ⟨i, k, none⟩ v) b N f := by
  have hne : ∀ j, (⟨i, k, none⟩ : Addr) ≠ ⟨b, j, none⟩ := fun j x => hi (by simpa using (congrArg Addr.block x))
  exact ⟨fun j hj => (World.cell?_setCell_other _ _ _ _ (hne j)).trans (h.cell j hj), fun j hj => by rw [World.frozen?_setCell]; exact h.free j hj, by simpa using h.lt⟩
theorem RowB.on {w w' : World} {b N : Nat} {f : Nat → Nat} (h : RowB w b N f) (k : Below w.heap.size w w') : RowB w' b N f :=
  ⟨fun j hj => (k.cell h.lt).trans (h.cell j hj), fun j hj => (k.frozen h.lt).trans (h.free j hj), Nat.lt_of_lt_of_le h.lt k.size⟩
theorem RowB.zero (w : World) (n : Nat) (t : TypeId) : RowB (w.alloc (.cells (Array.replicate n (.int .u8 0)) t)) w.heap.size n (fun _ => 0) := by
  have hh := heap_alloc_new w (.cells (Array.replicate n (.int .u8 0)) t)
  refine ⟨fun j hj => ?_, fun j _ => ?_, by simp⟩
  · rw [cell_of_row _ _ j _ _ _ hh]
    simp [hj]
  · unfold World.frozen?
    rw [hh]
    simp
theorem RowB.text (w : World) (s : ByteArray) (c : Nat) (t : TypeId) : RowB (w.alloc (.cells (bytesRow s c) t ((bytesRow s c).size, (bytesRow s c).size + 1))) w.heap.size s.size (bt s) := by
  have hh := heap_alloc_new w (.cells (bytesRow s c) t ((bytesRow s c).size, (bytesRow s c).size + 1))
  have hz : s.size ≤ (bytesRow s c).size := by
    unfold bytesRow
    rw [Array.size_append, Array.size_map]
    exact Nat.le_add_right _ _
  refine ⟨fun j hj => ?_, fun j hj => ?_, by simp⟩
  · rw [cell_of_row _ _ j _ _ _ hh]
    unfold bytesRow
    rw [Array.getElem?_append_left (by rw [Array.size_map]; exact hj)]
    have : s.data[j]? = some s[j] := Array.getElem?_eq_getElem hj
    rw [Array.getElem?_map, this]
    show some (Value.int .u8 (s[j].toNat : Nat)) = _
    rw [bt_eq hj]
  · unfold World.frozen?
    rw [hh]
    simp
    omega
/-- a row of bytes as a text -/
def strOf (f : Nat → Nat) (n : Nat) : ByteArray := strOfNums ((List.range n).map fun j => ((f j : Nat) : Int))
theorem strOf_size (f : Nat → Nat) (n : Nat) : (strOf f n).size = n := by unfold strOf; rw [strOfNums_size]; simp
theorem strOf_bt (f : Nat → Nat) (n j : Nat) (hj : j < n) (hf : f j < 256) : bt (strOf f n) j = f j := by
  have hz : (strOf f n).data.size = n := strOf_size f n
  have h : j < (strOf f n).size := by rw [strOf_size]; exact hj
  have e : (strOf f n)[j] = UInt8.ofNat (f j) := by
    show (strOf f n).data[j] = _
    unfold strOf strOfNums
    simp
  unfold bt
  rw [dif_pos h, e, UInt8.toNat_ofNat']
  omega
theorem conv_rowB {w : World} {b n c : Nat} {f : Nat → Nat} (h : RowB w b n f) : (convert 36 9 (.slice (some ⟨b, 0, none⟩) n c)).run Try.prog w = .ok (.string (strOf f n)) w := by
  refine run_convert_bytes_arg _ 36 5 Try.underlying36 Try.underlying5 b 0 n c _ (by simp) (fun i hi => ?_) 9 Try.underlying9
  rw [Nat.zero_add, h.cell i hi]
  simp [hi]

end Go.Proofs.Ytkhkobdbbffkbaa
