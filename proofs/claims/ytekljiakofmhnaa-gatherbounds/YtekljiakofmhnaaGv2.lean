/- A row of heads: one more in it. -/
import Derived.Test.YtekljiakofmhnaaGv1
import Derived.Maps.AppendAt
import Derived.Deep.AppendLies
namespace Go.Proofs.Ytekljiakofmhnaa
open Go.RowKit Go.Shelf

def flatH (l : List Rh) : List Value := (l.map hdL).flatten
theorem flatH_snoc (l : List Rh) (x : Rh) : flatH (l ++ [x]) = flatH l ++ hdL x := by simp [flatH]
theorem grown_rowH {w w' : World} {base e size n : Nat} {v : Value} {xs : List Value} (g : w.grownBy w' v.ownBlock) (h : w.ownsRow base e size v n xs) (hb : base ≤ w.heap.size) : Below base w w' := by
  rcases h.2 with ⟨rfl, _⟩ | ⟨k, cap, cur, rfl, hk, _⟩
  · exact ⟨g.os, g.tape, g.output, g.size, fun i hi => g.block i (by omega) (by intro x; cases x)⟩
  · exact ⟨g.os, g.tape, g.output, g.size, fun i hi => g.block i (by omega) (by intro x; cases x; exact absurd hi (Nat.not_lt.2 hk))⟩
/-- one more: what append does is known ahead; it turns no block but the row's own -/
theorem head_app {D0 : World} {base n : Nat} {v : Value} {l : List Rh} (hown : D0.ownsRow base 34 10 v n (flatH l)) (hb : base ≤ D0.heap.size) (hn : n ≤ 1000) (x : Rh) :
    ∃ v2 D2, (Builtin.append_ #[37, 37] 37 #[v, .slice (some ⟨D0.heap.size, 0, none⟩) 1 1]).run Try.prog (D0.alloc (.cells (hdL x).toArray 34)) = .ok v2 D2 ∧ D2.ownsRow base 34 10 v2 (n + 1) (flatH (l ++ [x])) ∧ (D0.alloc (.cells (hdL x).toArray 34)).grownBy D2 v.ownBlock ∧ Below base D0 D2 ∧ (v2.ownBlock = v.ownBlock ∨ v2.ownBlock = some (D0.heap.size + 1)) := by
  obtain ⟨i0, hi, hz0, hz1, hz2⟩ := info_parts (P := Try.prog) (e := 34) (z := hd0V) (size := 10) (bytes := 48) (by kernel_rfl)
  obtain ⟨v2, D2, r, o, g, _, hv⟩ := run_append_own_at (P := Try.prog) (D0.alloc (.cells (hdL x).toArray 34)) base 37 37 34 i0 _ 10 48 Try.underlying37 hi hz0 hz1 hz2 rfl (by decide) v n _ (hown.alloc _)
    ⟨D0.heap.size, 0, none⟩ 1 1 (hdL x) rfl (by have q := World.news_of_block (heap_alloc_new D0 (.cells (hdL x).toArray 34)); simpa using q) (by intro u hu; simp at hu; rcases hu with rfl | rfl | rfl | rfl | rfl | rfl | rfl | rfl | rfl | rfl <;> rfl) (by unfold maxLen; omega) (by omega) (by simp; omega)
  refine ⟨v2, D2, r, by rw [flatH_snoc]; exact o, g, ((Below.refl _ _).alloc hb _).trans (grown_rowH g (hown.alloc _) (by simp; omega)), ?_⟩
  rcases hv with hv | hv
  · exact .inl hv
  · right
    rw [hv]
    simp

end Go.Proofs.Ytekljiakofmhnaa
