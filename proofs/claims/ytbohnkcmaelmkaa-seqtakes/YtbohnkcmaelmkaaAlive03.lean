/- The statements' own answers that the document fixes ('alive'), over the loaded program. No conditions. -/
import Derived.Test.YtbohnkcmaelmkaaSeq
namespace Go.Proofs.Ytbohnkcmaelmkaa
open Go.RowKit

theorem alive0 (w : World) : Calls Try.prog 7 #[.int .u32 4294967295, .int .u32 1] w fun e w' => e = .returned (.bool true) ∧ w' = w := by
  have h := less_any 4294967295 1 w (by decide) (by decide)
  rw [show less 4294967295 1 = true by decide +kernel] at h
  exact h
theorem alive1 (w : World) : Calls Try.prog 9 #[.int .u32 4294967295, .int .u32 1] w fun e w' => e = .returned (.int .i64 2) ∧ w' = w := by
  have h := behind_any 4294967295 1 w (by decide) (by decide)
  rw [show behind 4294967295 1 = 2 by decide +kernel] at h
  exact h
theorem alive2 (w : World) : Calls Try.prog 11 #[.int .u32 5, .int .u32 3, .int .u32 2] w fun e w' => e = .returned (.bool false) ∧ Below w.heap.size w w' := by
  have h := in_any 5 3 2 w (by decide) (by decide) (by decide)
  rw [show inW 5 3 2 = false by decide +kernel] at h
  exact h
theorem alive3 (w : World) : Calls Try.prog 11 #[.int .u32 4, .int .u32 3, .int .u32 2] w fun e w' => e = .returned (.bool true) ∧ Below w.heap.size w w' := by
  have h := in_any 4 3 2 w (by decide) (by decide) (by decide)
  rw [show inW 4 3 2 = true by decide +kernel] at h
  exact h
theorem alive4 (w : World) : Calls Try.prog 15 #[.int .u32 90, .int .i64 20, .int .u32 100, .int .u32 10] w fun e w' => e = .returned (.bool true) ∧ Below w.heap.size w w' := by
  have h := takes_any 90 20 100 10 w (by decide) (by decide) (by decide) (by decide) (by decide)
  rw [show takes 90 20 100 10 = true by decide +kernel] at h
  exact h
theorem alive5 (w : World) : Calls Try.prog 15 #[.int .u32 90, .int .i64 10, .int .u32 100, .int .u32 10] w fun e w' => e = .returned (.bool false) ∧ Below w.heap.size w w' := by
  have h := takes_any 90 10 100 10 w (by decide) (by decide) (by decide) (by decide) (by decide)
  rw [show takes 90 10 100 10 = false by decide +kernel] at h
  exact h
theorem alive6 (w : World) : Calls Try.prog 15 #[.int .u32 100, .int .i64 0, .int .u32 100, .int .u32 0] w fun e w' => e = .returned (.bool true) ∧ Below w.heap.size w w' := by
  have h := takes_any 100 0 100 0 w (by decide) (by decide) (by decide) (by decide) (by decide)
  rw [show takes 100 0 100 0 = true by decide +kernel] at h
  exact h
theorem alive7 (w : World) : Calls Try.prog 15 #[.int .u32 100, .int .i64 1, .int .u32 100, .int .u32 0] w fun e w' => e = .returned (.bool false) ∧ Below w.heap.size w w' := by
  have h := takes_any 100 1 100 0 w (by decide) (by decide) (by decide) (by decide) (by decide)
  rw [show takes 100 1 100 0 = false by decide +kernel] at h
  exact h
theorem alive8 (w : World) : Calls Try.prog 13 #[.int .u32 4294967295, .int .u32 0] w fun e w' => e = .returned (.int .u32 0) ∧ w' = w := by
  have h := max_any 4294967295 0 w (by decide) (by decide)
  rw [show most 4294967295 0 = 0 by decide +kernel] at h
  exact h
theorem alive9 (w : World) : Calls Try.prog 13 #[.int .u32 5, .int .u32 5] w fun e w' => e = .returned (.int .u32 5) ∧ w' = w := by
  have h := max_any 5 5 w (by decide) (by decide)
  rw [show most 5 5 = 5 by decide +kernel] at h
  exact h

set_option maxRecDepth 100000 in
set_option maxHeartbeats 2000000 in
theorem alive_any (w : World) : Calls Try.prog 17 #[] w fun e w' => e = .returned (.bool true) ∧ Below w.heap.size w w' := by
  have H0 := hide alive0
  have H1 := hide alive1
  have H2 := hide alive2
  have H3 := hide alive3
  have H4 := hide alive4
  have H5 := hide alive5
  have H6 := hide alive6
  have H7 := hide alive7
  have H8 := hide alive8
  have H9 := hide alive9
  go_enter Try.func17, Try.ntmps17
  go_wp2_with fail
  refine (unhide H0 _).mono ?_
  rintro e w0 ⟨rfl, rfl⟩
  go_wp2_with fail
  refine (unhide H1 _).mono ?_
  rintro e w1 ⟨rfl, rfl⟩
  go_wp2_with fail
  refine (unhide H2 _).mono ?_
  rintro e w2 ⟨rfl, hb2⟩
  go_wp2_with fail
  refine (unhide H3 _).mono ?_
  rintro e w3 ⟨rfl, hb3⟩
  go_wp2_with fail
  refine (unhide H4 _).mono ?_
  rintro e w4 ⟨rfl, hb4⟩
  go_wp2_with fail
  refine (unhide H5 _).mono ?_
  rintro e w5 ⟨rfl, hb5⟩
  go_wp2_with fail
  refine (unhide H6 _).mono ?_
  rintro e w6 ⟨rfl, hb6⟩
  go_wp2_with fail
  refine (unhide H7 _).mono ?_
  rintro e w7 ⟨rfl, hb7⟩
  go_wp2_with fail
  refine (unhide H8 _).mono ?_
  rintro e w8 ⟨rfl, rfl⟩
  go_wp2_with fail
  refine (unhide H9 _).mono ?_
  rintro e w9 ⟨rfl, rfl⟩
  go_wp2
  go_ret
  exact ⟨rfl, tr2 hb2 (tr2 hb3 (tr2 hb4 (tr2 hb5 (tr2 hb6 hb7))))⟩

end Go.Proofs.Ytbohnkcmaelmkaa
