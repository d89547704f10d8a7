/- package gather's Put and Tick of nothing. -/
import Derived.Test.YtekljiakofmhnaaGu1
namespace Go.Proofs.Ytekljiakofmhnaa
open Go.RowKit Go.Shelf

set_option maxRecDepth 100000 in
set_option maxHeartbeats 4000000 in
theorem put_nil (w : World) (h : Rh) (d : ByteArray) (now : Int) :
    Calls Try.prog 10 #[.pointer none, hdV h, .string d, .int .i64 now] w fun x w' => x = noR 1 ∧ Below w.heap.size w w' := by
  have B2 := tr2 (below_one w (.cells (hdL h).toArray 34)) (below_one _ (.cells hd0C 34))
  have HR := hide (show ((w.alloc (.cells (hdL h).toArray 34)).alloc (.cells hd0C 34)).heap[w.heap.size + 1]? = some (.cells hd0C 34 (0, 0)) by
    have := heap_alloc_new (w.alloc (.cells (hdL h).toArray 34)) (.cells hd0C 34)
    rwa [World.size_alloc] at this)
  have HM := hide (made_nil ((w.alloc (.cells (hdL h).toArray 34)).alloc (.cells hd0C 34)))
  have HB2 := hide B2
  clear B2
  obtain ⟨W2, hW2⟩ : ∃ W2, W2 = ((w.alloc (.cells (hdL h).toArray 34)).alloc (.cells hd0C 34)) := ⟨_, rfl⟩
  rw [← hW2] at HR HM HB2
  simp only [hdL, hd0C] at hW2
  go_enter Try.func10, Try.ntmps10
  go_upto_block 1 with fail
  rw [← hW2]
  clear hW2
  refine (unhide HM).mono ?_
  rintro e w' ⟨rfl, rfl⟩
  have r0 := cell_lie (unhide HR) 0 (Value.int .u8 0) rfl
  have f0 := free_lie (unhide HR) 0
  have r1 := cell_lie (unhide HR) 1 (Value.int .u16 0) rfl
  have f1 := free_lie (unhide HR) 1
  have r2 := cell_lie (unhide HR) 2 (Value.bool false) rfl
  have f2 := free_lie (unhide HR) 2
  have r3 := cell_lie (unhide HR) 3 (Value.bool false) rfl
  have f3 := free_lie (unhide HR) 3
  have r4 := cell_lie (unhide HR) 4 (Value.int .i64 0) rfl
  have f4 := free_lie (unhide HR) 4
  have r5 := cell_lie (unhide HR) 5 (Value.int .u8 0) rfl
  have f5 := free_lie (unhide HR) 5
  have r6 := cell_lie (unhide HR) 6 (Value.int .u8 0) rfl
  have f6 := free_lie (unhide HR) 6
  have r7 := cell_lie (unhide HR) 7 (Value.int .u32 0) rfl
  have f7 := free_lie (unhide HR) 7
  have r8 := cell_lie (unhide HR) 8 (Value.int .u32 0) rfl
  have f8 := free_lie (unhide HR) 8
  have r9 := cell_lie (unhide HR) 9 (Value.string ⟨#[]⟩) rfl
  have f9 := free_lie (unhide HR) 9
  have q0 := setCell_idem (unhide HR) 0 (Value.int .u8 0) rfl
  have q1 := setCell_idem (unhide HR) 1 (Value.int .u16 0) rfl
  have q2 := setCell_idem (unhide HR) 2 (Value.bool false) rfl
  have q3 := setCell_idem (unhide HR) 3 (Value.bool false) rfl
  have q4 := setCell_idem (unhide HR) 4 (Value.int .i64 0) rfl
  have q5 := setCell_idem (unhide HR) 5 (Value.int .u8 0) rfl
  have q6 := setCell_idem (unhide HR) 6 (Value.int .u8 0) rfl
  have q7 := setCell_idem (unhide HR) 7 (Value.int .u32 0) rfl
  have q8 := setCell_idem (unhide HR) 8 (Value.int .u32 0) rfl
  have q9 := setCell_idem (unhide HR) 9 (Value.string ⟨#[]⟩) rfl
  go_wp2_with fail
  refine bodyPost_ret (v := .tuple #[hd0V, .string ⟨#[]⟩, .bool false, .int .i64 1]) (by simp [results, Try.results10, go_sem, r0, r1, r2, r3, r4, r5, r6, r7, r8, r9]) rfl ⟨rfl, unhide HB2⟩

theorem tick_nil (w : World) (now : Int) :
    Calls Try.prog 8 #[.pointer none, .int .i64 now] w fun x w' => x = .returned (.slice none 0 0) ∧ Below w.heap.size w w' := by
  have HM := hide (made_nil w)
  go_enter Try.func8, Try.ntmps8
  go_wp2_with fail
  refine (unhide HM).mono ?_
  rintro e w' ⟨rfl, rfl⟩
  go_wp2_with fail
  go_ret
  exact ⟨rfl, Below.refl _ _⟩

end Go.Proofs.Ytekljiakofmhnaa
