/- New of a conf that may not be, and Next of a Gather that holds nothing, of package gather; over the loaded program. -/
import Derived.Test.YtekljiakofmhnaaGv4
namespace Go.Proofs.Ytekljiakofmhnaa
open Go.RowKit Go.Shelf

set_option maxRecDepth 20000 in
set_option maxHeartbeats 1000000 in
theorem new_no (c : Cv) (hc : ¬ c.May) (w : World) :
    Calls Try.prog 5 #[.agg (cvL c)] w fun e w' => e = .returned (.tuple #[.pointer none, .int .i64 2]) ∧ Below w.heap.size w w' := by
  have H := hide (fun w => maybe_any c w)
  rw [decide_eq_false hc] at H
  have B0 := below_one w (.cells (cvL c) 23)
  clear hc
  go_enter Try.func5, Try.ntmps5
  go_wp2_with fail
  refine (unhide H _).mono ?_
  rintro e w1 ⟨rfl, b1⟩
  have B1 := hide (tr2 B0 b1)
  clear B0 b1 H
  go_wp2_with fail
  refine bodyPost_ret (v := .tuple #[.pointer none, .int .i64 2]) (by simp [results, Try.results5, go_sem]) rfl ?_
  exact ⟨rfl, unhide B1⟩

section
variable {No : Nat → Prop} {w : World} {p b : Nat} {c : Cf} {o : Value} {held last : Int}
set_option maxRecDepth 20000 in
set_option maxHeartbeats 1000000 in
theorem next_empty (h : GX No w p b c [] [] o held last) :
    Calls Try.prog 9 #[.pointer (some ⟨p, 0, none⟩)] w fun x w' => x = .returned (.tuple #[.int .i64 0, .bool false]) ∧ Below w.heap.size w w' := by
  have H := hide (made_ok p b w (h.cell rfl))
  have c5 : w.cell? ⟨p, 5, none⟩ = some o := h.cell rfl
  obtain ⟨sp, sc, ho⟩ := rowp_shape h.row
  rw [ho, List.length_nil] at c5
  clear h
  go_enter Try.func9, Try.ntmps9
  go_wp2_with fail
  refine (unhide H).mono ?_
  rintro x w1 ⟨rfl, rfl⟩
  go_wp2_with fail
  refine bodyPost_ret (v := .tuple #[.int .i64 0, .bool false]) (by simp [results, Try.results9, go_sem]) rfl ⟨rfl, Below.refl _ _⟩
end

end Go.Proofs.Ytekljiakofmhnaa
