/- A Builder's text, and what stands beside it: no block but its own bytes turns. -/
import Derived.Test.YtekljiakofmhnaaIo1
namespace Go.Proofs.Ytekljiakofmhnaa
open Go.RowKit Go.Shelf

def StrK (B : Nat) (w w' : World) : Prop := Below B w w' ∧ ∀ (n : Nat) (cs : Array Value) (T : TypeId), w.heap[n]? = some (Obj.cells cs T (0, 0)) → T ≠ 5 → w'.heap[n]? = some (Obj.cells cs T (0, 0))
theorem strK_drew (B : Nat) (w : World) : StrK B w w.drew := ⟨Below.drew (Below.refl B w), fun _ _ _ h _ => h⟩
theorem strK_alloc (B : Nat) (w : World) (o : Obj) (h : B ≤ w.heap.size) : StrK B w (w.drew.alloc o) :=
  ⟨(Below.drew (Below.refl B w)).alloc h _, fun _ _ _ h _ => ((below_one w.drew o).block _ (heap_lt h)).trans h⟩
theorem strK_freeze (B : Nat) (w : World) (g n : Nat) (cur : Array Value) (hB : B ≤ g) (hg : w.heap[g]? = some (.cells cur 5 (0, 0))) : StrK B w (w.drew.freeze ⟨g, 0, none⟩ n) := by
  refine ⟨Lib.below_freeze (Below.drew (Below.refl B w)) (p := ⟨g, 0, none⟩) hB _, fun k cs T h ht => ?_⟩
  have hne : g ≠ k := by
    intro e
    subst e
    rw [hg] at h
    injection h with h
    injection h with h1 h2
    exact ht h2.symm
  unfold World.freeze
  split
  · exact h
  · simp only [Array.getElem?_modify]
    rw [if_neg hne]
    exact h

set_option maxHeartbeats 4000000 in
set_option maxRecDepth 100000 in
theorem bstr_box (B b : Nat) (l : List UInt8) (w : World) (h : IsB B b l w) (hB : B ≤ w.heap.size) :
    Calls Try.prog 49 #[.pointer (some ⟨b, 0, none⟩)] w fun e w' => e = .returned (.string ⟨l.toArray⟩) ∧ StrK B w w' := by
  obtain ⟨p, h1, v, hbk, hown, -⟩ : ∃ p, Lib.BuilderAt 90 5 B b p (Lib.byteCells l) w := by
    rcases h with h | h
    · exact ⟨_, h⟩
    · exact ⟨_, h⟩
  clear h
  rw [Lib.byteCells_length] at hown
  have hblt : b < w.heap.size := heap_lt hbk
  rcases hown.2 with ⟨hv, hz⟩ | ⟨g, cap, cur, hv, hbg, hg, hnc, hcm, hcs, htake⟩
  · subst hv
    obtain rfl := List.eq_nil_of_length_eq_zero hz
    have c1 : w.drew.cell? ⟨b, 1, none⟩ = some (.slice none 0 0) := by
      have : w.drew.heap[b]? = some (.cells #[p, .slice none 0 0] 90 (0, 0)) := hbk
      rw [Lib.cell_of_heap this]; rfl
    have hSD : (Builtin.unsafeSliceData_ #[88] 101 #[.slice none 0 0]).run Try.prog w.drew = .ok (.pointer none) w.drew := rfl
    have hUS : (Builtin.unsafeString_ #[101, 3] 9 #[.pointer none, .int .i64 0]).run Try.prog w.drew = .ok (.string .empty) w.drew := Lib.run_unsafeString_none _ _ _ _ _
    clear hown hz hbk hblt hB
    go_enter Try.func49, Try.ntmps49
    go_wp2
    go_region
    all_goals (go_wp2; go_ret; exact ⟨rfl, strK_drew B w⟩)
  · subst hv
    by_cases hl : l = []
    · subst hl
      by_cases hc : cap = 0
      · subst hc
        have c1 : w.drew.cell? ⟨b, 1, none⟩ = some (.slice (some ⟨g, 0, none⟩) 0 0) := by
          have : w.drew.heap[b]? = some (.cells #[p, .slice (some ⟨g, 0, none⟩) 0 0] 90 (0, 0)) := hbk
          rw [Lib.cell_of_heap this]; rfl
        have hSD : (Builtin.unsafeSliceData_ #[88] 101 #[.slice (some ⟨g, 0, none⟩) 0 0]).run Try.prog w.drew = .ok (.pointer (some ⟨w.drew.heap.size, 0, none⟩)) (w.drew.alloc (.view ⟨g, 0, none⟩ 5)) :=
          Lib.run_unsafeSliceData_zero w.drew _ _ 5 (Try.strA.t127) ⟨g, 0, none⟩ 0 (5, cur.size) (by have hg' : w.drew.heap[g]? = some (.cells cur 5 (0, 0)) := hg; simp [World.shape?, hg'])
        have hUS : ∀ W q, (Builtin.unsafeString_ #[101, 3] 9 #[.pointer q, .int .i64 0]).run Try.prog W = .ok (.string .empty) W := fun W q => Lib.run_unsafeString_none _ _ _ _ q
        have c2 : (w.drew.alloc (.view ⟨g, 0, none⟩ 5)).cell? ⟨b, 1, none⟩ = some (.slice (some ⟨g, 0, none⟩) 0 0) := by
          have : (w.drew.alloc (.view ⟨g, 0, none⟩ 5)).heap[b]? = _ := (Lib.alloc_old w.drew _ b hblt).trans hbk
          rw [Lib.cell_of_heap this]; rfl
        have c3 : (w.alloc (.view ⟨g, 0, none⟩ 5)).drew.cell? ⟨b, 1, none⟩ = some (.slice (some ⟨g, 0, none⟩) 0 0) := c2
        have c0 : w.cell? ⟨b, 1, none⟩ = some (.slice (some ⟨g, 0, none⟩) 0 0) := c1
        clear hown hbk hg hcs htake hnc hcm hblt
        go_enter Try.func49, Try.ntmps49
        go_wp2
        go_region
        all_goals (go_wp2; go_ret; exact ⟨rfl, strK_alloc B w _ hB⟩)
      · have c1 : w.drew.cell? ⟨b, 1, none⟩ = some (.slice (some ⟨g, 0, none⟩) 0 cap) := by
          have : w.drew.heap[b]? = some (.cells #[p, .slice (some ⟨g, 0, none⟩) 0 cap] 90 (0, 0)) := hbk
          rw [Lib.cell_of_heap this]; rfl
        have hSD : (Builtin.unsafeSliceData_ #[88] 101 #[.slice (some ⟨g, 0, none⟩) 0 cap]).run Try.prog w.drew = .ok (.pointer (some ⟨g, 0, none⟩)) w.drew :=
          Lib.run_unsafeSliceData_row _ _ _ _ _ _ hc
        have hUS : (Builtin.unsafeString_ #[101, 3] 9 #[.pointer (some ⟨g, 0, none⟩), .int .i64 0]).run Try.prog w.drew = .ok (.string .empty) w.drew := Lib.run_unsafeString_none _ _ _ _ _
        clear hown hbk hg hcs htake hc hnc hcm hB hblt
        go_enter Try.func49, Try.ntmps49
        go_wp2
        go_region
        all_goals (go_wp2; go_ret; exact ⟨rfl, strK_drew B w⟩)
    · have hl0 : l.length ≠ 0 := by simpa using hl
      have c1 : w.drew.cell? ⟨b, 1, none⟩ = some (.slice (some ⟨g, 0, none⟩) l.length cap) := by
        have : w.drew.heap[b]? = some (.cells #[p, .slice (some ⟨g, 0, none⟩) l.length cap] 90 (0, 0)) := hbk
        rw [Lib.cell_of_heap this]; rfl
      have hSD : (Builtin.unsafeSliceData_ #[88] 101 #[.slice (some ⟨g, 0, none⟩) l.length cap]).run Try.prog w.drew = .ok (.pointer (some ⟨g, 0, none⟩)) w.drew :=
        Lib.run_unsafeSliceData_row _ _ _ _ _ _ (by omega)
      have hUS : (Builtin.unsafeString_ #[101, 3] 9 #[.pointer (some ⟨g, 0, none⟩), .int .i64 l.length]).run Try.prog w.drew = .ok (.string ⟨l.toArray⟩) (w.drew.freeze ⟨g, 0, none⟩ l.length) := by
        refine Lib.run_unsafeString_row w.drew 101 3 9 5 (Try.strA.t127) Try.bxst.cellsByte g cur.size (by have hg' : w.drew.heap[g]? = some (.cells cur 5 (0, 0)) := hg; simp [World.shape?, hg']) l hl (by omega) (by unfold maxLen at hcm; omega) ?_
        intro j x hx
        exact hown.cells (g := g) rfl j (.int .u8 x.toNat) (by simp [Lib.byteCells, hx])
      have HK := hide (strK_freeze B w g l.length cur hbg hg)
      clear hown hbk hg hcs htake hl hl0 hnc hcm hB hblt
      go_enter Try.func49, Try.ntmps49
      go_wp2
      go_region
      all_goals (go_wp2; go_ret; exact ⟨rfl, unhide HK⟩)

end Go.Proofs.Ytekljiakofmhnaa
