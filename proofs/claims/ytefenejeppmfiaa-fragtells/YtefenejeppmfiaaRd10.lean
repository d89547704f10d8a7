/- The contracts of the document's two, four and Decode (layer 10), over the loaded program; no memory that was there has turned. Conditions: texts of bounded length. -/
import Derived.Test.YtefenejeppmfiaaIh5
import Derived.Test.YtefenejeppmfiaaRx
import Derived.Laws.BitsAllLaws
namespace Go.Proofs.Ytefenejeppmfiaa
open Go.RowKit

/-- a block that a region makes, and fills at its end -/
def tb (b : Nat) (cs : List Value) : Nat → Nat → Option Value := fun b' j' => if b' = b then cs[j']? else none
theorem tab_alloc {w1 w : World} (hb : Below w1.heap.size w1 w) (cs : List Value) (t : TypeId) : Tab w1 (w.heap.size - w1.heap.size + 1) (tb (w.heap.size - w1.heap.size) cs) (w.alloc (.cells cs.toArray t)) := by
  have hle := hb.size
  have hp : w1.heap.size + (w.heap.size - w1.heap.size) = w.heap.size := by omega
  refine ⟨hb.alloc hb.size _, by simp; omega, fun b j v e => ?_, fun b j v e => ?_, fun b j v e => ?_⟩
  · unfold tb at e
    split at e
    · omega
    · cases e
  · unfold tb at e
    split at e
    · rename_i hbb
      rw [hbb, hp, cell_of_row _ _ j _ _ _ (heap_alloc_new w _)]
      simpa using e
    · cases e
  · unfold tb at e
    split at e
    · rename_i hbb
      rw [hbb, hp]
      unfold World.frozen?
      rw [heap_alloc_new]
      simp
    · cases e
structure WB (w1 : World) (h : Rh) (i j : Nat) (b : Nat) (l : Array Bool) (w : World) : Prop where
  bel : Below w1.heap.size w1 w
  z : l.getD i false = true → l.getD j false = false → Tab w1 (b + 1) (tb b z10) w
  f : l.getD j false = true → l.getD i false = true ∧ Tab w1 (b + 1) (tb b (hdL h)) w
theorem WB.start (w1 : World) (h : Rh) (i j b n : Nat) : WB w1 h i j b (Array.replicate n false) { w1 with drawn := w1.drawn + 1 } :=
  ⟨⟨rfl, rfl, rfl, Nat.le_refl _, fun _ _ => rfl⟩, (fun a => by rw [getD_rep] at a; cases a), (fun a => by rw [getD_rep] at a; cases a)⟩
theorem WB.same {w1 : World} {h : Rh} {i j k : Nat} (hi : k ≠ i) (hj : k ≠ j) (b : Nat) (l : Array Bool) (w : World) (W : WB w1 h i j b l w) : WB w1 h i j b (l.setIfInBounds k true) w :=
  ⟨W.bel, fun a c => W.z (by rwa [getD_upd hi] at a) (by rwa [getD_upd hj] at c), fun a => by rw [getD_upd hj] at a; rw [getD_upd hi]; exact W.f a⟩
theorem WB.on {w1 : World} {h : Rh} {i j k : Nat} (hi : k ≠ i) (hj : k ≠ j) (b : Nat) (l : Array Bool) (w w' : World) (W : WB w1 h i j b l w) (q : Below w.heap.size w w') : WB w1 h i j b (l.setIfInBounds k true) w' := by
  have V := W.same hi hj
  exact ⟨tr2 W.bel q, fun a c => (V.z a c).on q, fun a => ⟨(V.f a).1, (V.f a).2.on q⟩⟩
theorem getD_false {l : Array Bool} {k : Nat} (h : l.getD k true = false) : l.getD k false = false := by
  simp only [Array.getD_eq_getD_getElem?] at h ⊢
  cases e : l[k]? with
  | none => rw [e] at h; cases h
  | some v => rw [e] at h; simpa using h
theorem getD_here {l : Array Bool} {k : Nat} (h : l.getD k true = false) : (l.setIfInBounds k true).getD k false = true := by
  simp only [Array.getD_eq_getD_getElem?] at h ⊢
  rw [Array.getElem?_setIfInBounds, if_pos rfl]
  by_cases hk : k < l.size
  · rw [if_pos hk]; rfl
  · rw [Array.getElem?_eq_none (by omega)] at h; cases h

theorem getD_stay {l : Array Bool} {i k : Nat} (h : l.getD k false = true) : (l.setIfInBounds i true).getD k false = true := by
  by_cases e : i = k
  · subst e
    simp only [Array.getD_eq_getD_getElem?] at h ⊢
    rw [Array.getElem?_setIfInBounds, if_pos rfl]
    by_cases hk : i < l.size
    · rw [if_pos hk]; rfl
    · rw [Array.getElem?_eq_none (by omega)] at h; cases h
  · rw [getD_upd e]; exact h
theorem WB.alloc {w1 w : World} {h : Rh} {i j b : Nat} {l : Array Bool} (W : WB w1 h i j b l w) (hu : l.getD i true = false) (hij : i ≠ j) (t : TypeId) : WB w1 h i j (w.heap.size - w1.heap.size) (l.setIfInBounds i true) (w.alloc (.cells z10.toArray t)) :=
  ⟨W.bel.alloc W.bel.size _, fun _ _ => tab_alloc W.bel z10 t, fun a => by
    rw [getD_upd hij] at a
    have := (W.f a).1
    rw [getD_false hu] at this
    cases this⟩
theorem WB.store {w1 w : World} {h : Rh} {i j b : Nat} {l : Array Bool} (W : WB w1 h i j b l w) (hi : l.getD i false = true) (hu : l.getD j true = false) : WB w1 h i j b (l.setIfInBounds j true)
    ((((((((((w.setCell ⟨w1.heap.size + b, 0, none⟩ (.int .u8 (h.tos : Int))).setCell ⟨w1.heap.size + b, 1, none⟩ (.int .u16 (h.id : Int))).setCell ⟨w1.heap.size + b, 2, none⟩ (.bool h.hold)).setCell ⟨w1.heap.size + b, 3, none⟩ (.bool h.more)).setCell ⟨w1.heap.size + b, 4, none⟩ (.int .i64 h.at')).setCell ⟨w1.heap.size + b, 5, none⟩ (.int .u8 (h.ttl : Int))).setCell ⟨w1.heap.size + b, 6, none⟩ (.int .u8 (h.proto : Int))).setCell ⟨w1.heap.size + b, 7, none⟩ (.int .u32 (h.frm : Int))).setCell ⟨w1.heap.size + b, 8, none⟩ (.int .u32 (h.to : Int))).setCell ⟨w1.heap.size + b, 9, none⟩ (.string h.op)) := by
  have T := W.z hi (getD_false hu)
  have e : ∀ j, tb b z10 b j = z10[j]? := fun j => by unfold tb; rw [if_pos rfl]
  refine ⟨below_set10 W.bel (Nat.le_add_right _ _) _ _ _ _ _ _ _ _ _ _, (fun _ c => by rw [getD_here hu] at c; cases c), fun _ => ⟨getD_stay hi, ?_⟩⟩
  refine (T.put10 b (e 0) (e 1) (e 2) (e 3) (e 4) (e 5) (e 6) (e 7) (e 8) (e 9) _ _ _ _ _ _ _ _ _ _).as fun b' j' v q => ?_
  unfold tb at q ⊢
  split at q
  · rename_i hb; rw [if_pos hb]; exact q
  · cases q
theorem vs_last (base : List Value) (x y : Value) (j : Nat) (h : j ≠ base.length) : (base ++ [x]).getD j undef = (base ++ [y]).getD j undef := by
  simp only [List.getD_eq_getElem?_getD]
  by_cases hj : j < base.length
  · rw [List.getElem?_append_left hj, List.getElem?_append_left hj]
  · rw [List.getElem?_eq_none (by simp; omega), List.getElem?_eq_none (by simp; omega)]

end Go.Proofs.Ytefenejeppmfiaa
