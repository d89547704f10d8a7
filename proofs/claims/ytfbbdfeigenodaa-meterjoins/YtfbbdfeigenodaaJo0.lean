/- The statement MeterJoins' parts: what meters are that are joined, by the program and by the document's answer. -/
import Derived.Test.YtfbbdfeigenodaaRj1
import Derived.Test.YtfbbdfeigenodaaJn2
import Derived.Test.YtfbbdfeigenodaaLw2
namespace Go.Proofs.Ytfbbdfeigenodaa
open Go.RowKit Go.Maps

/-- the counters behind a Join -/
def jX (Ls : List (List Ent)) (L : List Ent) : List Ent := if (joinL Ls L).1 = 0 then (joinL Ls L).2 else L
theorem cnt_jX {Ls : List (List Ent)} {L : List Ent} (h : Cnt L) : Cnt (jX Ls L) := by
  unfold jX
  split
  · exact cnt_joinL Ls h
  · exact h

theorem join_x (p b : Nat) (L : List Ent) (g c : Nat) (ms : List Mtr) (w : World) (h : PM w p b L) (hL : Cnt L) (hn : ms.length ≤ 1000) (hnc : ms.length ≤ c) (hrow : PtrRow w g (ms.map fun x => some x.p)) (hms : ∀ x ∈ ms, MtrOk w x) :
    Calls Try.prog 14 #[.pointer (some ⟨p, 0, none⟩), .slice (some ⟨g, 0, none⟩) ms.length c] w fun e w' => e = .returned (.int .i64 (joinL (ms.map (·.L)) L).1) ∧ (∃ b', PM w' p b' (jX (ms.map (·.L)) L) ∧ (b' = b ∨ w.heap.size ≤ b')) ∧ Kp [p] w w' := by
  refine (join_any p b L g c ms w h hL hn hnc hrow hms).mono ?_
  rintro e w' ⟨he, hp⟩
  refine ⟨he, ?_⟩
  unfold jX
  rcases hp with ⟨h0, b', h1, h2, h3⟩ | ⟨h0, h1⟩
  · rw [if_pos h0]
    exact ⟨⟨b', h1, .inr h2⟩, h3⟩
  · rw [if_neg h0]
    exact ⟨⟨b, h.kept (Kp.of_below [] h1) (by simp) (by simp), .inl rfl⟩, Kp.of_below _ h1⟩

theorem rjoin_x (r : Nat) (v : Value) (L : List Ent) (g c : Nat) (ms : List Rtr) (w : World) (h : RM w r v L) (hL : Cnt L) (hn : ms.length ≤ 1000) (hnc : ms.length ≤ c) (hg : g < w.heap.size) (hrow : ∀ j x, ms[j]? = some x → w.cell? ⟨g, j, none⟩ = some (.pointer (some ⟨x.r, 0, none⟩))) (hms : ∀ x ∈ ms, RtrOk w r L x) :
    Calls Try.prog 15 #[.pointer (some ⟨r, 0, none⟩), .slice (some ⟨g, 0, none⟩) ms.length c] w fun e w' => e = .returned (.int .i64 (joinL (ms.map (·.L)) L).1) ∧ (∃ v', RM w' r v' (jX (ms.map (·.L)) L)) ∧ Kp [r] w w' := by
  refine (rjoin_any r v L g c ms w h hL hn hnc hg hrow hms).mono ?_
  rintro e w' ⟨he, hp⟩
  refine ⟨he, ?_⟩
  unfold jX
  rcases hp with ⟨h0, v', h1, _, h3⟩ | ⟨h0, h1⟩
  · rw [if_pos h0]
    exact ⟨⟨v', h1⟩, h3⟩
  · rw [if_neg h0]
    exact ⟨⟨v, h.kept (Kp.of_below [] h1) (by simp) (by simp)⟩, Kp.of_below _ h1⟩

/-- a pair of a meter and the document's, in a world -/
structure Pr (w : World) (p r : Nat) (L : List Ent) : Prop where
  pm : ∃ b, PM w p b L
  rm : ∃ v, RM w r v L
  cnt : Cnt L
theorem Pr.kept {w w' : World} {p r : Nat} {L : List Ent} (h : Pr w p r L) (k : Below w.heap.size w w') : Pr w' p r L := by
  obtain ⟨b, hp⟩ := h.pm
  obtain ⟨v, hr⟩ := h.rm
  exact ⟨⟨b, hp.kept (Kp.of_below [] k) (by simp) (by simp)⟩, ⟨v, hr.kept (Kp.of_below [] k) (by simp) (by simp)⟩, h.cnt⟩
theorem Both.pr {w : World} {lo p b r : Nat} {v : Value} {L : List Ent} (h : Both w lo p b r v L) : Pr w p r L := ⟨⟨b, h.pm⟩, ⟨v, h.rm⟩, h.cnt⟩
theorem alike_pr {w : World} {p r : Nat} {L : List Ent} (h : Pr w p r L) : Calls Try.prog 10 #[.pointer (some ⟨p, 0, none⟩), .pointer (some ⟨r, 0, none⟩)] w fun e w' => e = .returned (.bool true) ∧ Below w.heap.size w w' := by
  obtain ⟨b, hp⟩ := h.pm
  obtain ⟨v, hr⟩ := h.rm
  exact alike_any p b r v L w hp hr h.cnt
theorem none_pr {w : World} {p p2 b2 : Nat} {L L2 : List Ent} {r : Nat} (h : Pr w p r L) (h2 : PM w p2 b2 L2) (g : Nat) (hg : w.heap[g]? = some (.cells #[.pointer (some ⟨p2, 0, none⟩), .pointer none] 25)) :
    Calls Try.prog 14 #[.pointer (some ⟨p, 0, none⟩), .slice (some ⟨g, 0, none⟩) 2 2] w fun e w' => e = .returned (.int .i64 1) ∧ Below w.heap.size w w' := by
  obtain ⟨b, hp⟩ := h.pm
  have := join_none p b L g 2 [some p2, none] w hp (by simp) ⟨(Array.getElem?_eq_some_iff.1 hg).1, ?_⟩ ?_ (by simp)
  · exact this
  · intro j o ho
    rw [cell_of_row w g j _ _ _ hg]
    match j, ho with
    | 0, ho => simp at ho; subst ho; rfl
    | 1, ho => simp at ho; subst ho; rfl
    | j + 2, ho => simp at ho
  · intro o ho
    simp at ho
    rcases ho with rfl | rfl
    · intro q hq
      cases hq
      exact ⟨h2.plt, b2, h2.cell⟩
    · intro q hq
      cases hq

end Go.Proofs.Ytfbbdfeigenodaa
