/- The calls of package sum over one text or two that the statements make, and the statements' own answers that the document fixes ('alive'), over the loaded program. Conditions: texts of at most 2 to the power of 39 bytes. -/
import Derived.Test.YtnnfhbeledfbkaaRef02
import Derived.OpenShut
namespace Go.Proofs.Ytnnfhbeledfbkaa
open Go.RowKit

theorem strs1 (w : World) (s : ByteArray) : Strs (w.alloc (.cells #[.string s] 9)).heap.size (w.alloc (.cells #[.string s] 9)) (.slice (some ⟨w.heap.size, 0, none⟩) 1 1) [s] := by
  refine .inr ⟨w.heap.size, 0, 1, rfl, by simp, fun j hj => ?_⟩
  obtain rfl : j = 0 := by simpa using hj
  simp only [World.cell?]
  rw [heap_alloc_new]
  rfl
theorem strs2 (w : World) (s t : ByteArray) : Strs (w.alloc (.cells #[.string s, .string t] 9)).heap.size (w.alloc (.cells #[.string s, .string t] 9)) (.slice (some ⟨w.heap.size, 0, none⟩) 2 2) [s, t] := by
  refine .inr ⟨w.heap.size, 0, 2, rfl, by simp, fun j hj => ?_⟩
  have hj' : j < 2 := by simpa using hj
  simp only [World.cell?]
  rw [heap_alloc_new]
  rcases (by omega : j = 0 ∨ j = 1) with h | h <;> subst h <;> rfl
theorem skip1 {w w' : World} {o : Obj} (h : Below (w.alloc o).heap.size (w.alloc o) w') : Below w.heap.size w w' := (below_one w o).trans (h.mono (by simp))

theorem cat1_le (s : ByteArray) (h : s.size ≤ 549755813888) : (cat [s]).length ≤ 1099511627776 := by rw [cat_one, ← Lib.size_eq]; omega
theorem cat2_le (s t : ByteArray) (h : s.size ≤ 549755813888) (h2 : t.size ≤ 549755813888) : (cat [s, t]).length ≤ 1099511627776 := by rw [cat_two, List.length_append, ← Lib.size_eq, ← Lib.size_eq]; omega

theorem add1 (s : ByteArray) (h : s.size ≤ 549755813888) (w : World) :
    Calls Try.prog 9 #[.slice (some ⟨w.heap.size, 0, none⟩) 1 1] (w.alloc (.cells #[.string s] 9)) fun e w' => e = .returned (.int .u16 (add [s] : Nat)) ∧ Below w.heap.size w w' :=
  (add_any [s] _ _ (cat1_le s h) (by simp) (strs1 w s)).mono fun _ _ ⟨he, hb⟩ => ⟨he, skip1 hb⟩
theorem add2 (s t : ByteArray) (h : s.size ≤ 549755813888) (h2 : t.size ≤ 549755813888) (w : World) :
    Calls Try.prog 9 #[.slice (some ⟨w.heap.size, 0, none⟩) 2 2] (w.alloc (.cells #[.string s, .string t] 9)) fun e w' => e = .returned (.int .u16 (add [s, t] : Nat)) ∧ Below w.heap.size w w' :=
  (add_any [s, t] _ _ (cat2_le s t h h2) (by simp) (strs2 w s t)).mono fun _ _ ⟨he, hb⟩ => ⟨he, skip1 hb⟩
theorem of1 (s : ByteArray) (h : s.size ≤ 549755813888) (w : World) :
    Calls Try.prog 11 #[.slice (some ⟨w.heap.size, 0, none⟩) 1 1] (w.alloc (.cells #[.string s] 9)) fun e w' => e = .returned (.int .u16 ((65535 - add [s] : Nat) : Int)) ∧ Below w.heap.size w w' :=
  (of_sum [s] _ _ (cat1_le s h) (by simp) (strs1 w s)).mono fun _ _ ⟨he, hb⟩ => ⟨he, skip1 hb⟩
theorem of0 (w : World) :
    Calls Try.prog 11 #[.slice none 0 0] w fun e w' => e = .returned (.int .u16 65535) ∧ Below w.heap.size w w' :=
  of_sum [] _ _ (by simp [cat]) (by simp) (.inl ⟨⟨_, _, rfl⟩, rfl⟩)
theorem right1 (s : ByteArray) (h : s.size ≤ 549755813888) (w : World) :
    Calls Try.prog 13 #[.slice (some ⟨w.heap.size, 0, none⟩) 1 1] (w.alloc (.cells #[.string s] 9)) fun e w' => e = .returned (.bool (decide (add [s] = 65535))) ∧ Below w.heap.size w w' :=
  (right_any [s] _ _ (cat1_le s h) (by simp) (strs1 w s)).mono fun _ _ ⟨he, hb⟩ => ⟨he, skip1 hb⟩
theorem right2 (s t : ByteArray) (h : s.size ≤ 549755813888) (h2 : t.size ≤ 549755813888) (w : World) :
    Calls Try.prog 13 #[.slice (some ⟨w.heap.size, 0, none⟩) 2 2] (w.alloc (.cells #[.string s, .string t] 9)) fun e w' => e = .returned (.bool (decide (add [s, t] = 65535))) ∧ Below w.heap.size w w' :=
  (right_any [s, t] _ _ (cat2_le s t h h2) (by simp) (strs2 w s t)).mono fun _ _ ⟨he, hb⟩ => ⟨he, skip1 hb⟩

theorem head12 (w : World) :
    Calls Try.prog 17 #[.int .u32 1, .int .u32 2, .int .u8 6, .int .i64 3] w fun e w' => (∃ s : ByteArray, s.size = 12 ∧ e = .returned (.string s)) ∧ Below w.heap.size w w' :=
  (head_any 1 2 6 3 w (by omega) (by omega) (by omega)).mono fun _ _ ⟨he, hb⟩ => ⟨⟨_, by show (List.toArray _).size = _; rw [List.size_toArray, head_length], he⟩, hb⟩

theorem nat16 {x : Int} (h : (Lit.int .u16 x).wf = true) : ∃ n : Nat, x = (n : Int) ∧ n < 65536 := by
  have := bounds_u16 h
  exact ⟨x.toNat, by omega, by omega⟩
theorem nat32 {x : Int} (h : (Lit.int .u32 x).wf = true) : ∃ n : Nat, x = (n : Int) ∧ n < 4294967296 := by
  have := bounds_u32 h
  exact ⟨x.toNat, by omega, by omega⟩
theorem nat8 {x : Int} (h : (Lit.int .u8 x).wf = true) : ∃ n : Nat, x = (n : Int) ∧ n < 256 := by
  have := bounds_u8 h
  exact ⟨x.toNat, by omega, by omega⟩

theorem tr2 {a b c : World} (h : Below a.heap.size a b) (k : Below b.heap.size b c) : Below a.heap.size a c := h.trans (k.mono h.size)

set_option maxRecDepth 100000 in
set_option maxHeartbeats 2000000 in
theorem alive_any (w : World) : Calls Try.prog 8 #[] w fun e w' => e = .returned (.bool true) ∧ Below w.heap.size w w' := by
  have H1 := hide (add2 ⟨#[1, 2]⟩ ⟨#[3, 4]⟩ (by decide) (by decide))
  rw [show add [⟨#[1, 2]⟩, ⟨#[3, 4]⟩] = 1030 from by decide] at H1
  have H2 := hide of0
  have H3 := hide (of1 ⟨#[255, 255]⟩ (by decide))
  rw [show 65535 - add [⟨#[255, 255]⟩] = 0 from by decide] at H3
  have H4 := hide (of1 ⟨#[1, 2, 3, 4]⟩ (by decide))
  rw [show 65535 - add [⟨#[1, 2, 3, 4]⟩] = 64505 from by decide] at H4
  have H5 := hide (turn_any 64505 772 5 · (by decide) (by decide) (by decide))
  rw [show turn 64505 772 5 = 65272 from by decide] at H5
  have H6 := hide (of1 ⟨#[1, 2, 0, 5]⟩ (by decide))
  rw [show 65535 - add [⟨#[1, 2, 0, 5]⟩] = 65272 from by decide] at H6
  have H7 := hide (right2 ⟨#[255]⟩ ⟨#[255]⟩ (by decide) (by decide))
  rw [show (decide (add [⟨#[255]⟩, ⟨#[255]⟩] = 65535)) = true from by decide] at H7
  have H8 := hide (right1 ⟨#[]⟩ (by decide))
  rw [show (decide (add [⟨#[]⟩] = 65535)) = false from by decide] at H8
  have H9 := hide head12
  go_enter Try.func8, Try.ntmps8
  go_wp2_with fail
  refine (unhide H1 _).mono ?_
  rintro e w1 ⟨rfl, hb1⟩
  go_wp2_with fail
  refine (unhide H2 _).mono ?_
  rintro e w2 ⟨rfl, hb2⟩
  go_wp2_with fail
  refine (unhide H3 _).mono ?_
  rintro e w3 ⟨rfl, hb3⟩
  go_wp2_with fail
  refine (unhide H4 _).mono ?_
  rintro e w4 ⟨rfl, hb4⟩
  go_wp2_with fail
  refine (unhide H5 _).mono ?_
  rintro e w5 ⟨rfl, hb5⟩
  go_wp2_with fail
  refine (unhide H6 _).mono ?_
  rintro e w6 ⟨rfl, hb6⟩
  go_wp2_with fail
  refine (unhide H7 _).mono ?_
  rintro e w7 ⟨rfl, hb7⟩
  go_wp2_with fail
  refine (unhide H8 _).mono ?_
  rintro e w8 ⟨rfl, hb8⟩
  go_wp2_with fail
  refine (unhide H9 _).mono ?_
  rintro e w9 ⟨⟨s, hs, rfl⟩, hb9⟩
  go_wp2
  go_ret
  exact ⟨rfl, tr2 hb1 (tr2 hb2 (tr2 hb3 (tr2 hb4 (tr2 hb5 (tr2 hb6 (tr2 hb7 (tr2 hb8 hb9)))))))⟩

end Go.Proofs.Ytnnfhbeledfbkaa
