/- What the call's own new blocks hold, cell by cell, and that they may be written; contracts that only make memory, in the shape in which a drawn region wants them. No program in it but for its name. -/
import Derived.Test.YtekljiakofmhnaaKit
import Derived.Lib.QuietBelow
namespace Go.Proofs.Ytekljiakofmhnaa
open Go.RowKit

theorem cell_lt' {W : World} {a : Addr} {v : Value} (h : W.cell? a = some v) : a.block < W.heap.size := by
  apply Classical.byContradiction
  intro hn
  have e : W.heap[a.block]? = none := Array.getElem?_eq_none (by omega)
  unfold World.cell? at h
  rw [e] at h
  simp at h

/-- what the call's own new blocks hold, cell by cell, and that they may be written -/
structure Tab (w0 : World) (n : Nat) (f : Nat → Nat → Option Value) (w : World) : Prop where
  bel : Below w0.heap.size w0 w
  lt : w0.heap.size + n ≤ w.heap.size
  dom : ∀ b j v, f b j = some v → b < n
  cells : ∀ b j v, f b j = some v → w.cell? ⟨w0.heap.size + b, j, none⟩ = some v
  free : ∀ b j v, f b j = some v → w.frozen? ⟨w0.heap.size + b, j, none⟩ = false
def upd (f : Nat → Nat → Option Value) (b j : Nat) (v : Value) : Nat → Nat → Option Value := fun b' j' => if b' = b ∧ j' = j then some v else f b' j'
theorem Tab.on {w0 w w' : World} {n : Nat} {f : Nat → Nat → Option Value} (k : Tab w0 n f w) (h : Below w.heap.size w w') : Tab w0 n f w' :=
  ⟨tr2 k.bel h, Nat.le_trans k.lt h.size, k.dom, fun b j v e => (h.cell (show w0.heap.size + b < w.heap.size by have := k.dom b j v e; have := k.lt; omega)).trans (k.cells b j v e),
    fun b j v e => (h.frozen (p := ⟨w0.heap.size + b, j, none⟩) (show w0.heap.size + b < w.heap.size by have := k.dom b j v e; have := k.lt; omega)).trans (k.free b j v e)⟩
theorem Tab.set {w0 w : World} {n : Nat} {f : Nat → Nat → Option Value} (k : Tab w0 n f w) (b j : Nat) (u v : Value) (h : f b j = some u) : Tab w0 n (upd f b j v) (w.setCell ⟨w0.heap.size + b, j, none⟩ v) := by
  refine ⟨k.bel.setCell (p := ⟨w0.heap.size + b, j, none⟩) (show w0.heap.size ≤ w0.heap.size + b by omega) _, by have := k.lt; simpa using this, fun b' j' v' e => ?_, fun b' j' v' e => ?_, fun b' j' v' e => ?_⟩
  · unfold upd at e
    split at e
    · rename_i hb; rw [hb.1]; exact k.dom b j u h
    · exact k.dom b' j' v' e
  · unfold upd at e
    split at e
    · rename_i hb
      obtain ⟨rfl, rfl⟩ := hb
      obtain rfl := Option.some.inj e
      exact World.cell?_setCell_same _ _ _ (k.cells b' j' u h)
    · rename_i hb
      have hne : (⟨w0.heap.size + b, j, none⟩ : Addr) ≠ ⟨w0.heap.size + b', j', none⟩ := fun x => hb ⟨by have := congrArg Addr.block x; simp at this; omega, by have := congrArg Addr.off x; simp at this; omega⟩
      exact (World.cell?_setCell_other _ _ _ _ hne).trans (k.cells b' j' v' e)
  · rw [World.frozen?_setCell]
    unfold upd at e
    split at e
    · rename_i hb
      obtain ⟨rfl, rfl⟩ := hb
      exact k.free b' j' u h
    · exact k.free b' j' v' e
/-- a new block more -/
def add (f : Nat → Nat → Option Value) (n : Nat) (cs : List Value) : Nat → Nat → Option Value := fun b j => if b = n then cs[j]? else f b j
theorem Tab.zero (w : World) : Tab w 0 (fun _ _ => none) w := ⟨Below.refl _ _, Nat.le_refl _, fun _ _ _ e => (by cases e), fun _ _ _ e => (by cases e), fun _ _ _ e => (by cases e)⟩
theorem Tab.alloc {w0 w : World} {n : Nat} {f : Nat → Nat → Option Value} (k : Tab w0 n f w) (hw : w.heap.size = w0.heap.size + n) (cs : List Value) (t : TypeId) : Tab w0 (n + 1) (add f n cs) (w.alloc (.cells cs.toArray t)) := by
  have k' := k.on (below_one w (.cells cs.toArray t))
  refine ⟨k'.bel, by simp; omega, fun b j v e => ?_, fun b j v e => ?_, fun b j v e => ?_⟩
  · unfold add at e
    split at e
    · omega
    · have := k.dom b j v e; omega
  · unfold add at e
    split at e
    · rename_i hb
      rw [hb, ← hw, cell_of_row _ _ j _ _ _ (heap_alloc_new w _)]
      simpa using e
    · exact k'.cells b j v e
  · unfold add at e
    split at e
    · rename_i hb
      rw [hb, ← hw]
      unfold World.frozen?
      rw [heap_alloc_new]
      simp
    · exact k'.free b j v e

theorem Tab.as {w0 w : World} {n : Nat} {f g : Nat → Nat → Option Value} (k : Tab w0 n f w) (h : ∀ b j v, g b j = some v → f b j = some v) : Tab w0 n g w :=
  ⟨k.bel, k.lt, fun b j v e => k.dom b j v (h b j v e), fun b j v e => k.cells b j v (h b j v e), fun b j v e => k.free b j v (h b j v e)⟩


theorem rgB {w : World} {f : FuncId} {args : Array Value} {v : Value} (H : ∀ W, Calls Try.prog f args W fun e w' => e = .returned v ∧ Below W.heap.size W w') (d : Nat) (os : Array Obj) :
    Calls Try.prog f args (Sort.grow (redrawn w d) os) fun e w'' => e = .returned v ∧ ∃ p : Regrown, w'' = Sort.grow (redrawn w p.d) p.os := Calls.regrown_of (H _)
theorem same_below {f : FuncId} {args : Array Value} {v : Value} (H : ∀ W, Calls Try.prog f args W fun e w' => e = .returned v ∧ w' = W) (W : World) : Calls Try.prog f args W fun e w' => e = .returned v ∧ Below W.heap.size W w' :=
  (H W).mono fun _ _ h => ⟨h.1, h.2 ▸ Below.refl _ _⟩
theorem dec_val {p : Prop} [Decidable p] (h : p) : Ending.returned (.bool (decide p)) = Ending.returned (.bool true) := by rw [decide_eq_true h]
theorem dec_val2 {p : Prop} [Decidable p] (h : ¬ p) : Ending.returned (.bool (decide p)) = Ending.returned (.bool false) := by rw [decide_eq_false h]

theorem below_drew (w : World) : Below w.heap.size w w.drew := ⟨rfl, rfl, rfl, Nat.le_refl _, fun _ _ => rfl⟩
theorem Tab.drew {w0 w : World} {n : Nat} {f : Nat → Nat → Option Value} (k : Tab w0 n f w) : Tab w0 n f w.drew := k.on (below_drew w)
theorem Tab.five {w0 w : World} {n : Nat} {f : Nat → Nat → Option Value} (k : Tab w0 n f w) (b : Nat) {v0 v1 v2 v3 v4 : Value} (h0 : f b 0 = some v0) (h1 : f b 1 = some v1) (h2 : f b 2 = some v2) (h3 : f b 3 = some v3) (h4 : f b 4 = some v4) :
    w.cell? ⟨w0.heap.size + b, 0, none⟩ = some v0 ∧ w.cell? ⟨w0.heap.size + b, 1, none⟩ = some v1 ∧ w.cell? ⟨w0.heap.size + b, 2, none⟩ = some v2 ∧ w.cell? ⟨w0.heap.size + b, 3, none⟩ = some v3 ∧ w.cell? ⟨w0.heap.size + b, 4, none⟩ = some v4 :=
  ⟨k.cells b 0 _ h0, k.cells b 1 _ h1, k.cells b 2 _ h2, k.cells b 3 _ h3, k.cells b 4 _ h4⟩
theorem Tab.five0 {w0 w : World} {n : Nat} {f : Nat → Nat → Option Value} (k : Tab w0 n f w) {v0 v1 v2 v3 v4 : Value} (h0 : f 0 0 = some v0) (h1 : f 0 1 = some v1) (h2 : f 0 2 = some v2) (h3 : f 0 3 = some v3) (h4 : f 0 4 = some v4) :
    w.cell? ⟨w0.heap.size, 0, none⟩ = some v0 ∧ w.cell? ⟨w0.heap.size, 1, none⟩ = some v1 ∧ w.cell? ⟨w0.heap.size, 2, none⟩ = some v2 ∧ w.cell? ⟨w0.heap.size, 3, none⟩ = some v3 ∧ w.cell? ⟨w0.heap.size, 4, none⟩ = some v4 :=
  k.five 0 h0 h1 h2 h3 h4
theorem Tab.free5 {w0 w : World} {n : Nat} {f : Nat → Nat → Option Value} (k : Tab w0 n f w) (b : Nat) {v0 v1 v2 v3 v4 : Value} (h0 : f b 0 = some v0) (h1 : f b 1 = some v1) (h2 : f b 2 = some v2) (h3 : f b 3 = some v3) (h4 : f b 4 = some v4) :
    w.frozen? ⟨w0.heap.size + b, 0, none⟩ = false ∧ w.frozen? ⟨w0.heap.size + b, 1, none⟩ = false ∧ w.frozen? ⟨w0.heap.size + b, 2, none⟩ = false ∧ w.frozen? ⟨w0.heap.size + b, 3, none⟩ = false ∧ w.frozen? ⟨w0.heap.size + b, 4, none⟩ = false :=
  ⟨k.free b 0 _ h0, k.free b 1 _ h1, k.free b 2 _ h2, k.free b 3 _ h3, k.free b 4 _ h4⟩
theorem Tab.free50 {w0 w : World} {n : Nat} {f : Nat → Nat → Option Value} (k : Tab w0 n f w) {v0 v1 v2 v3 v4 : Value} (h0 : f 0 0 = some v0) (h1 : f 0 1 = some v1) (h2 : f 0 2 = some v2) (h3 : f 0 3 = some v3) (h4 : f 0 4 = some v4) :
    w.frozen? ⟨w0.heap.size, 0, none⟩ = false ∧ w.frozen? ⟨w0.heap.size, 1, none⟩ = false ∧ w.frozen? ⟨w0.heap.size, 2, none⟩ = false ∧ w.frozen? ⟨w0.heap.size, 3, none⟩ = false ∧ w.frozen? ⟨w0.heap.size, 4, none⟩ = false :=
  k.free5 0 h0 h1 h2 h3 h4
theorem below_set5 {w0 w : World} {b : Nat} (h : Below w0.heap.size w0 w) (hb : w0.heap.size ≤ b) (a0 a1 a2 a3 a4 : Value) :
    Below w0.heap.size w0 (((((w.setCell ⟨b, 0, none⟩ a0).setCell ⟨b, 1, none⟩ a1).setCell ⟨b, 2, none⟩ a2).setCell ⟨b, 3, none⟩ a3).setCell ⟨b, 4, none⟩ a4) :=
  ((((h.setCell (p := ⟨b, 0, none⟩) hb _).setCell (p := ⟨b, 1, none⟩) hb _).setCell (p := ⟨b, 2, none⟩) hb _).setCell (p := ⟨b, 3, none⟩) hb _).setCell (p := ⟨b, 4, none⟩) hb _

end Go.Proofs.Ytekljiakofmhnaa
