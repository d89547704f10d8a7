/- The contracts of package word's Byte, Two, Four, Text and Set at places that are there, and of strings.Clone, over the loaded program; no memory that was there has turned. Conditions: numbers in their kinds' bounds, places within the text. -/
import Derived.Test.YtefenejeppmfiaaWOfK
import Derived.Lib.BufferWrite
namespace Go.Proofs.Ytefenejeppmfiaa
open Go.RowKit

set_option maxHeartbeats 400000 in
theorem check_ok (s : ByteArray) (a n : Int) (w : World) (hs : s.size ≤ maxLen) (h1 : 0 ≤ a) (h2 : 0 ≤ n) (h : n ≤ (s.size : Int) - a) :
    Calls Try.prog 77 #[.string s, .int .i64 a, .int .i64 n] w fun e w' => e = .returned (.int .i64 0) ∧ w' = w := by
  unfold maxLen at hs
  go_enter Try.func77, Try.ntmps77
  go_wp2
  go_ret
  exact ⟨rfl, rfl⟩

set_option maxHeartbeats 1000000 in
theorem joined_any (c0 c1 c2 c3 c4 c5 c6 c7 : UInt8) (w : World) :
    Calls Try.prog 92 #[.agg #[B c0, B c1, B c2, B c3, B c4, B c5, B c6, B c7]] w fun e w' => e = .returned (.int .u64 (num [c0, c1, c2, c3, c4, c5, c6, c7] : Nat)) ∧ Below w.heap.size w w' := by
  have b0 := c0.toNat_lt; have b1 := c1.toNat_lt; have b2 := c2.toNat_lt; have b3 := c3.toNat_lt
  have b4 := c4.toNat_lt; have b5 := c5.toNat_lt; have b6 := c6.toNat_lt; have b7 := c7.toNat_lt
  have i0 : ∀ w, (Instr.index 106 (.agg #[.int .u8 (c0.toNat : Int), .int .u8 (c1.toNat : Int), .int .u8 (c2.toNat : Int), .int .u8 (c3.toNat : Int), .int .u8 (c4.toNat : Int), .int .u8 (c5.toNat : Int), .int .u8 (c6.toNat : Int), .int .u8 (c7.toNat : Int)]) (.int .i64 0)).run Try.prog w = .ok (.int .u8 (c0.toNat : Int)) w := fun _ => by kernel_rfl
  have i1 : ∀ w, (Instr.index 106 (.agg #[.int .u8 (c0.toNat : Int), .int .u8 (c1.toNat : Int), .int .u8 (c2.toNat : Int), .int .u8 (c3.toNat : Int), .int .u8 (c4.toNat : Int), .int .u8 (c5.toNat : Int), .int .u8 (c6.toNat : Int), .int .u8 (c7.toNat : Int)]) (.int .i64 1)).run Try.prog w = .ok (.int .u8 (c1.toNat : Int)) w := fun _ => by kernel_rfl
  have i2 : ∀ w, (Instr.index 106 (.agg #[.int .u8 (c0.toNat : Int), .int .u8 (c1.toNat : Int), .int .u8 (c2.toNat : Int), .int .u8 (c3.toNat : Int), .int .u8 (c4.toNat : Int), .int .u8 (c5.toNat : Int), .int .u8 (c6.toNat : Int), .int .u8 (c7.toNat : Int)]) (.int .i64 2)).run Try.prog w = .ok (.int .u8 (c2.toNat : Int)) w := fun _ => by kernel_rfl
  have i3 : ∀ w, (Instr.index 106 (.agg #[.int .u8 (c0.toNat : Int), .int .u8 (c1.toNat : Int), .int .u8 (c2.toNat : Int), .int .u8 (c3.toNat : Int), .int .u8 (c4.toNat : Int), .int .u8 (c5.toNat : Int), .int .u8 (c6.toNat : Int), .int .u8 (c7.toNat : Int)]) (.int .i64 3)).run Try.prog w = .ok (.int .u8 (c3.toNat : Int)) w := fun _ => by kernel_rfl
  have i4 : ∀ w, (Instr.index 106 (.agg #[.int .u8 (c0.toNat : Int), .int .u8 (c1.toNat : Int), .int .u8 (c2.toNat : Int), .int .u8 (c3.toNat : Int), .int .u8 (c4.toNat : Int), .int .u8 (c5.toNat : Int), .int .u8 (c6.toNat : Int), .int .u8 (c7.toNat : Int)]) (.int .i64 4)).run Try.prog w = .ok (.int .u8 (c4.toNat : Int)) w := fun _ => by kernel_rfl
  have i5 : ∀ w, (Instr.index 106 (.agg #[.int .u8 (c0.toNat : Int), .int .u8 (c1.toNat : Int), .int .u8 (c2.toNat : Int), .int .u8 (c3.toNat : Int), .int .u8 (c4.toNat : Int), .int .u8 (c5.toNat : Int), .int .u8 (c6.toNat : Int), .int .u8 (c7.toNat : Int)]) (.int .i64 5)).run Try.prog w = .ok (.int .u8 (c5.toNat : Int)) w := fun _ => by kernel_rfl
  have i6 : ∀ w, (Instr.index 106 (.agg #[.int .u8 (c0.toNat : Int), .int .u8 (c1.toNat : Int), .int .u8 (c2.toNat : Int), .int .u8 (c3.toNat : Int), .int .u8 (c4.toNat : Int), .int .u8 (c5.toNat : Int), .int .u8 (c6.toNat : Int), .int .u8 (c7.toNat : Int)]) (.int .i64 6)).run Try.prog w = .ok (.int .u8 (c6.toNat : Int)) w := fun _ => by kernel_rfl
  have i7 : ∀ w, (Instr.index 106 (.agg #[.int .u8 (c0.toNat : Int), .int .u8 (c1.toNat : Int), .int .u8 (c2.toNat : Int), .int .u8 (c3.toNat : Int), .int .u8 (c4.toNat : Int), .int .u8 (c5.toNat : Int), .int .u8 (c6.toNat : Int), .int .u8 (c7.toNat : Int)]) (.int .i64 7)).run Try.prog w = .ok (.int .u8 (c7.toNat : Int)) w := fun _ => by kernel_rfl
  unfold B
  go_enter Try.func92, Try.ntmps92
  go_wp2
  refine wp_loop_rounds 9 ?_
  rw [rounds_succ]; go_wp2
  rw [rounds_succ]; go_wp2
  rw [rounds_succ]; go_wp2
  rw [rounds_succ]; go_wp2
  rw [rounds_succ]; go_wp2
  rw [rounds_succ]; go_wp2
  rw [rounds_succ]; go_wp2
  rw [rounds_succ]; go_wp2
  rw [rounds_succ]; go_wp2
  go_ret
  refine ⟨?_, (Below.refl _ _).alloc (Nat.le_refl _) _⟩
  show Ending.returned (.int .u64 _) = Ending.returned (.int .u64 _)
  congr 2
  exact joined_num c0 c1 c2 c3 c4 c5 c6 c7

theorem num_zero (l : List UInt8) : num (0 :: l) = num l := by rw [num_cons]; simp

theorem B_zero : B 0 = .int .u8 0 := rfl

theorem copied (w : World) (cur : Array Value) (o : Nat) (t : TypeId) (s : ByteArray) (dCap : Nat) (hfit : o + s.size ≤ cur.size) :
    (Builtin.copy_ #[47, 9] 3 #[.slice (some ⟨w.heap.size, o, none⟩) s.size dCap, .string s]).run Try.prog (w.alloc (.cells cur t)).drew =
      .ok (.int .i64 s.size) (w.alloc (.cells (cur.toList.take o ++ Lib.byteCells s.data.toList ++ cur.toList.drop (o + s.size)).toArray t)).drew := by
  have h := Lib.run_copy_row_string (P := Try.prog) (w.alloc (.cells cur t)).drew 47 9 3 5 w.heap.size o s.size dCap s cur t Try.underlying47 (by kernel_rfl) (heap_alloc_new w _) (Nat.le_refl _) hfit
  rw [h]
  have e : ∀ Y, ((w.alloc (.cells cur t)).drew).setRow w.heap.size Y = (w.alloc (.cells Y t)).drew := fun Y => by
    show ((w.alloc (.cells cur t)).setRow w.heap.size Y).drew = _
    rw [World.setRow_alloc_new]
  rw [e]
  rfl

theorem joined_2 (x0 x1 : UInt8) (w : World) :
    Calls Try.prog 92 #[.agg #[.int .u8 0, .int .u8 0, .int .u8 0, .int .u8 0, .int .u8 0, .int .u8 0, .int .u8 (x0.toNat : Int), .int .u8 (x1.toNat : Int)]] w fun e w' => e = .returned (.int .u64 (num [x0, x1] : Nat)) ∧ Below w.heap.size w w' := by
  have h := joined_any 0 0 0 0 0 0 x0 x1 w
  rw [num_zero, num_zero, num_zero, num_zero, num_zero, num_zero] at h
  exact h

set_option maxHeartbeats 400000 in
theorem read2_ok (s : ByteArray) (a : Int) (w : World) (hs : s.size ≤ maxLen) (h1 : 0 ≤ a) (h : a + 2 ≤ (s.size : Int)) (x0 x1 : UInt8) (hx : s.extract a.toNat (a + 2).toNat = ⟨#[x0, x1]⟩) :
    Calls Try.prog 86 #[.string s, .int .i64 a, .int .i64 2] w fun e w' => e = .returned (.tuple #[.int .u16 (num [x0, x1] : Nat), .int .i64 0]) ∧ Below w.heap.size w w' := by
  have hs' := hs
  unfold maxLen at hs
  have hcp : (Builtin.copy_ #[47, 9] 3 #[.slice (some ⟨w.heap.size, 6, none⟩) 2 2, .string ⟨#[x0, x1]⟩]).run Try.prog (w.alloc (.cells #[.int .u8 0, .int .u8 0, .int .u8 0, .int .u8 0, .int .u8 0, .int .u8 0, .int .u8 0, .int .u8 0] 106)).drew =
      .ok (.int .i64 2) (w.alloc (.cells #[.int .u8 0, .int .u8 0, .int .u8 0, .int .u8 0, .int .u8 0, .int .u8 0, .int .u8 (x0.toNat : Int), .int .u8 (x1.toNat : Int)] 106)).drew := copied w #[.int .u8 0, .int .u8 0, .int .u8 0, .int .u8 0, .int .u8 0, .int .u8 0, .int .u8 0, .int .u8 0] 6 106 ⟨#[x0, x1]⟩ 2 (by simp [ByteArray.size])
  have hb : num [x0, x1] < 65536 := by simpa using num_lt [x0, x1]
  go_enter Try.func86, Try.ntmps86
  go_wp2_with fail
  refine (check_ok s a 2 _ hs' h1 (by omega) (by omega)).mono ?_
  rintro e w' ⟨rfl, rfl⟩
  go_wp2_with fail
  go_region
  go_wp2_with fail
  refine (joined_2 x0 x1 _).mono ?_
  rintro e w1 ⟨rfl, hb1⟩
  go_wp2
  go_ret2
  exact ⟨rfl, (below_one_drew _ _).trans (hb1.mono (by simp))⟩

theorem joined_4 (x0 x1 x2 x3 : UInt8) (w : World) :
    Calls Try.prog 92 #[.agg #[.int .u8 0, .int .u8 0, .int .u8 0, .int .u8 0, .int .u8 (x0.toNat : Int), .int .u8 (x1.toNat : Int), .int .u8 (x2.toNat : Int), .int .u8 (x3.toNat : Int)]] w fun e w' => e = .returned (.int .u64 (num [x0, x1, x2, x3] : Nat)) ∧ Below w.heap.size w w' := by
  have h := joined_any 0 0 0 0 x0 x1 x2 x3 w
  rw [num_zero, num_zero, num_zero, num_zero] at h
  exact h

set_option maxHeartbeats 400000 in
theorem read4_ok (s : ByteArray) (a : Int) (w : World) (hs : s.size ≤ maxLen) (h1 : 0 ≤ a) (h : a + 4 ≤ (s.size : Int)) (x0 x1 x2 x3 : UInt8) (hx : s.extract a.toNat (a + 4).toNat = ⟨#[x0, x1, x2, x3]⟩) :
    Calls Try.prog 88 #[.string s, .int .i64 a, .int .i64 4] w fun e w' => e = .returned (.tuple #[.int .u32 (num [x0, x1, x2, x3] : Nat), .int .i64 0]) ∧ Below w.heap.size w w' := by
  have hs' := hs
  unfold maxLen at hs
  have hcp : (Builtin.copy_ #[47, 9] 3 #[.slice (some ⟨w.heap.size, 4, none⟩) 4 4, .string ⟨#[x0, x1, x2, x3]⟩]).run Try.prog (w.alloc (.cells #[.int .u8 0, .int .u8 0, .int .u8 0, .int .u8 0, .int .u8 0, .int .u8 0, .int .u8 0, .int .u8 0] 106)).drew =
      .ok (.int .i64 4) (w.alloc (.cells #[.int .u8 0, .int .u8 0, .int .u8 0, .int .u8 0, .int .u8 (x0.toNat : Int), .int .u8 (x1.toNat : Int), .int .u8 (x2.toNat : Int), .int .u8 (x3.toNat : Int)] 106)).drew := copied w #[.int .u8 0, .int .u8 0, .int .u8 0, .int .u8 0, .int .u8 0, .int .u8 0, .int .u8 0, .int .u8 0] 4 106 ⟨#[x0, x1, x2, x3]⟩ 4 (by simp [ByteArray.size])
  have hb : num [x0, x1, x2, x3] < 4294967296 := by simpa using num_lt [x0, x1, x2, x3]
  go_enter Try.func88, Try.ntmps88
  go_wp2_with fail
  refine (check_ok s a 4 _ hs' h1 (by omega) (by omega)).mono ?_
  rintro e w' ⟨rfl, rfl⟩
  go_wp2_with fail
  go_region
  go_wp2_with fail
  refine (joined_4 x0 x1 x2 x3 _).mono ?_
  rintro e w1 ⟨rfl, hb1⟩
  go_wp2
  go_ret2
  exact ⟨rfl, (below_one_drew _ _).trans (hb1.mono (by simp))⟩

/-- the bytes of a field -/
def fld (s : ByteArray) (k n : Nat) : List UInt8 := (s.data.toList.drop k).take n

theorem fld_length {s : ByteArray} {k n : Nat} (h : k + n ≤ s.size) : (fld s k n).length = n := by
  have := Lib.size_eq s
  unfold fld
  rw [List.length_take, List.length_drop]
  omega

theorem extract_fld (s : ByteArray) (k n : Nat) : s.extract k (k + n) = ⟨(fld s k n).toArray⟩ := by
  rw [Lib.extract_eq, show k + n - k = n from by omega]
  rfl

theorem fld_lt (s : ByteArray) (k n : Nat) : num (fld s k n) < 256 ^ n := by
  have h := num_lt (fld s k n)
  have hl : (fld s k n).length ≤ n := by unfold fld; rw [List.length_take]; omega
  exact Nat.lt_of_lt_of_le h (Nat.pow_le_pow_right (by omega) hl)

theorem list2 (l : List UInt8) (h : l.length = 2) : ∃ a b, l = [a, b] := match l, h with
  | [a, b], _ => ⟨a, b, rfl⟩

set_option maxHeartbeats 400000 in
theorem two_ok (s : ByteArray) (k : Nat) (w : World) (hs : s.size ≤ maxLen) (h : k + 2 ≤ s.size) :
    Calls Try.prog 74 #[.string s, .int .i64 (k : Int)] w fun e w' => e = .returned (.tuple #[.int .u16 (num (fld s k 2) : Nat), .int .i64 0]) ∧ Below w.heap.size w w' := by
  obtain ⟨x0, x1, hx⟩ := list2 (fld s k 2) (fld_length h)
  have H := hide (fun w => read2_ok s (k : Int) w hs (by omega) (by omega) x0 x1 (by rw [show (k : Int).toNat = k from by omega, show ((k : Int) + 2).toNat = k + 2 from by omega, extract_fld, hx]))
  rw [hx]
  clear hx
  go_enter Try.func74, Try.ntmps74
  go_wp2_with fail
  refine (unhide H _).mono ?_
  rintro e w' ⟨rfl, hb⟩
  go_wp2_with fail
  go_ret2
  exact ⟨rfl, hb⟩

theorem list4b (l : List UInt8) (h : l.length = 4) : ∃ a b c d, l = [a, b, c, d] := match l, h with
  | [a, b, c, d], _ => ⟨a, b, c, d, rfl⟩

set_option maxHeartbeats 400000 in
theorem four_ok (s : ByteArray) (k : Nat) (w : World) (hs : s.size ≤ maxLen) (h : k + 4 ≤ s.size) :
    Calls Try.prog 76 #[.string s, .int .i64 (k : Int)] w fun e w' => e = .returned (.tuple #[.int .u32 (num (fld s k 4) : Nat), .int .i64 0]) ∧ Below w.heap.size w w' := by
  obtain ⟨x0, x1, x2, x3, hx⟩ := list4b (fld s k 4) (fld_length h)
  have H := hide (fun w => read4_ok s (k : Int) w hs (by omega) (by omega) x0 x1 x2 x3 (by rw [show (k : Int).toNat = k from by omega, show ((k : Int) + 4).toNat = k + 4 from by omega, extract_fld, hx]))
  rw [hx]
  clear hx
  go_enter Try.func76, Try.ntmps76
  go_wp2_with fail
  refine (unhide H _).mono ?_
  rintro e w' ⟨rfl, hb⟩
  go_wp2_with fail
  go_ret2
  exact ⟨rfl, hb⟩

theorem joined_1 (x0 : UInt8) (w : World) :
    Calls Try.prog 92 #[.agg #[.int .u8 0, .int .u8 0, .int .u8 0, .int .u8 0, .int .u8 0, .int .u8 0, .int .u8 0, .int .u8 (x0.toNat : Int)]] w fun e w' => e = .returned (.int .u64 (num [x0] : Nat)) ∧ Below w.heap.size w w' := by
  have h := joined_any 0 0 0 0 0 0 0 x0 w
  rw [num_zero, num_zero, num_zero, num_zero, num_zero, num_zero, num_zero] at h
  exact h

set_option maxHeartbeats 400000 in
theorem read1_ok (s : ByteArray) (a : Int) (w : World) (hs : s.size ≤ maxLen) (h1 : 0 ≤ a) (h : a + 1 ≤ (s.size : Int)) (x0 : UInt8) (hx : s.extract a.toNat (a + 1).toNat = ⟨#[x0]⟩) :
    Calls Try.prog 87 #[.string s, .int .i64 a, .int .i64 1] w fun e w' => e = .returned (.tuple #[.int .u8 (num [x0] : Nat), .int .i64 0]) ∧ Below w.heap.size w w' := by
  have hs' := hs
  unfold maxLen at hs
  have hcp : (Builtin.copy_ #[47, 9] 3 #[.slice (some ⟨w.heap.size, 7, none⟩) 1 1, .string ⟨#[x0]⟩]).run Try.prog (w.alloc (.cells #[.int .u8 0, .int .u8 0, .int .u8 0, .int .u8 0, .int .u8 0, .int .u8 0, .int .u8 0, .int .u8 0] 106)).drew =
      .ok (.int .i64 1) (w.alloc (.cells #[.int .u8 0, .int .u8 0, .int .u8 0, .int .u8 0, .int .u8 0, .int .u8 0, .int .u8 0, .int .u8 (x0.toNat : Int)] 106)).drew := copied w #[.int .u8 0, .int .u8 0, .int .u8 0, .int .u8 0, .int .u8 0, .int .u8 0, .int .u8 0, .int .u8 0] 7 106 ⟨#[x0]⟩ 1 (by simp [ByteArray.size])
  have hb : num [x0] < 256 := by simpa using num_lt [x0]
  go_enter Try.func87, Try.ntmps87
  go_wp2_with fail
  refine (check_ok s a 1 _ hs' h1 (by omega) (by omega)).mono ?_
  rintro e w' ⟨rfl, rfl⟩
  go_wp2_with fail
  go_region
  go_wp2_with fail
  refine (joined_1 x0 _).mono ?_
  rintro e w1 ⟨rfl, hb1⟩
  go_wp2
  go_ret2
  exact ⟨rfl, (below_one_drew _ _).trans (hb1.mono (by simp))⟩

theorem list1 (l : List UInt8) (h : l.length = 1) : ∃ a, l = [a] := match l, h with
  | [a], _ => ⟨a, rfl⟩

set_option maxHeartbeats 400000 in
theorem byte_ok (s : ByteArray) (k : Nat) (w : World) (hs : s.size ≤ maxLen) (h : k + 1 ≤ s.size) :
    Calls Try.prog 75 #[.string s, .int .i64 (k : Int)] w fun e w' => e = .returned (.tuple #[.int .u8 (num (fld s k 1) : Nat), .int .i64 0]) ∧ Below w.heap.size w w' := by
  obtain ⟨x0, hx⟩ := list1 (fld s k 1) (fld_length h)
  have H := hide (fun w => read1_ok s (k : Int) w hs (by omega) (by omega) x0 (by rw [show (k : Int).toNat = k from by omega, show ((k : Int) + 1).toNat = k + 1 from by omega, extract_fld, hx]))
  rw [hx]
  clear hx
  go_enter Try.func75, Try.ntmps75
  go_wp2_with fail
  refine (unhide H _).mono ?_
  rintro e w' ⟨rfl, hb⟩
  go_wp2_with fail
  go_ret2
  exact ⟨rfl, hb⟩

set_option maxRecDepth 100000 in
set_option maxHeartbeats 1000000 in
theorem sliteclone_any (s : ByteArray) (w : World) (hlim : s.size ≤ 281474976710656) :
    Calls Try.prog 89 #[.string s] w fun e w' => e = .returned (.string s) ∧ Below w.heap.size w w' := by
  by_cases h0 : s.size = 0
  · have hs : s = ⟨#[]⟩ := ByteArray.ext (Array.eq_empty_of_size_eq_zero h0)
    subst hs
    go_enter Try.func89, Try.ntmps89
    go_wp2
    go_ret
    exact ⟨rfl, Below.refl _ _⟩
  · obtain ⟨i0, hi, hz0, hz1, hz2⟩ := info_parts (P := Try.prog) (e := 5) (z := .int .u8 0) (size := 1) (bytes := 1) (by kernel_rfl)
    obtain ⟨M, hM⟩ : ∃ M, M = madeCells (Value.int .u8 0).cells (((s.size : Nat) : Int).toNat * i0.size) := ⟨_, rfl⟩
    have hMs : M.size = s.size := by rw [hM, size_madeCells, hz1]; simp
    have hmk : (Instr.makeSlice 47 (.int .i64 (s.size : Int)) (.int .i64 (s.size : Int))).run Try.prog w = .ok (.slice (some ⟨w.heap.size, 0, none⟩) s.size s.size) (w.alloc (.cells M 5)) := by
      have h := run_make (P := Try.prog) w 47 5 i0 (.int .u8 0) Try.underlying47 hi hz0 .i64 .i64 (s.size : Int) (s.size : Int) (by omega) (by omega) (by rw [hz2]; omega) (by omega)
      rw [← hM] at h
      simpa using h
    clear hM
    obtain ⟨Y, hY⟩ : ∃ Y, Y = (M.toList.take 0 ++ Lib.byteCells s.data.toList ++ M.toList.drop (0 + s.size)).toArray := ⟨_, rfl⟩
    have hcp : (Builtin.copy_ #[47, 9] 3 #[.slice (some ⟨w.heap.size, 0, none⟩) s.size s.size, .string s]).run Try.prog (w.alloc (.cells M 5)) = .ok (.int .i64 s.size) (w.alloc (.cells Y 5)) := by
      have h := Lib.run_copy_row_string (P := Try.prog) (w.alloc (.cells M 5)) 47 9 3 5 w.heap.size 0 s.size s.size s M 5 Try.underlying47 (by kernel_rfl) (heap_alloc_new w _) (Nat.le_refl _) (by omega)
      rw [← hY, World.setRow_alloc_new] at h
      exact h
    have hYl : Y.toList = Lib.byteCells s.data.toList := by
      rw [hY, List.toList_toArray, List.take_zero, List.nil_append, List.drop_of_length_le (by rw [Array.length_toList]; omega), List.append_nil]
    have hYs : Y.size = s.size := by rw [← Array.length_toList, hYl, Lib.byteCells_length, ← Lib.size_eq]
    have hgY : (w.alloc (.cells Y 5)).heap[w.heap.size]? = some (.cells Y 5 (0, 0)) := heap_alloc_new w _
    have hne : s.data.toList ≠ [] := fun e => h0 (by rw [Lib.size_eq, e]; rfl)
    have hUS := Lib.run_unsafeString_row (P := Try.prog) (w.alloc (.cells Y 5)) 108 3 9 5 Try.underlying108 (by kernel_rfl) w.heap.size Y.size (by unfold World.shape?; rw [hgY]) s.data.toList hne (by rw [← Lib.size_eq]; omega) (by rw [← Lib.size_eq]; omega)
      (fun j x hx => Lib.cells_of_row hgY Y.size j _ (by rw [List.take_of_length_le (by rw [Array.length_toList]; exact Nat.le_refl _), hYl]; simp [Lib.byteCells, hx]))
    rw [← Lib.size_eq] at hUS
    clear hY
    go_enter Try.func89, Try.ntmps89
    go_wp2
    go_ret
    exact ⟨rfl, Lib.below_freeze (below_one w _) (p := ⟨w.heap.size, 0, none⟩) (Nat.le_refl _) _⟩

set_option maxHeartbeats 400000 in
theorem clone_any (s : ByteArray) (w : World) (hlim : s.size ≤ 281474976710656) :
    Calls Try.prog 78 #[.string s] w fun e w' => e = .returned (.string s) ∧ Below w.heap.size w w' := by
  go_enter Try.func78, Try.ntmps78
  go_wp2_with fail
  refine (sliteclone_any s _ hlim).mono ?_
  rintro e w' ⟨rfl, hb⟩
  go_wp2
  go_ret
  exact ⟨rfl, hb⟩

set_option maxHeartbeats 400000 in
theorem wtext_ok (s : ByteArray) (a n : Int) (w : World) (hs : s.size ≤ 281474976710656) (h1 : 0 ≤ a) (h2 : 0 ≤ n) (h3 : n ≤ (s.size : Int) - a) :
    Calls Try.prog 37 #[.string s, .int .i64 a, .int .i64 n] w fun e w' => e = .returned (.tuple #[.string (s.extract a.toNat (a + n).toNat), .int .i64 0]) ∧ Below w.heap.size w w' := by
  have hm : s.size ≤ maxLen := by unfold maxLen; omega
  go_enter Try.func37, Try.ntmps37
  go_wp2_with fail
  refine (check_ok s a n _ hm h1 h2 h3).mono ?_
  rintro e w' ⟨rfl, rfl⟩
  go_wp2_with fail
  refine (clone_any (s.extract a.toNat (a + n).toNat) _ (by simp [ByteArray.size_extract]; omega)).mono ?_
  rintro e w1 ⟨rfl, hb⟩
  go_wp2
  go_ret2
  exact ⟨rfl, hb⟩

def setL (l : List UInt8) (k : Nat) (t : List UInt8) : List UInt8 := l.take k ++ t ++ l.drop (k + t.length)

theorem setL_length (l : List UInt8) (k : Nat) (t : List UInt8) (h : k + t.length ≤ l.length) : (setL l k t).length = l.length := by
  unfold setL
  simp only [List.length_append, List.length_take, List.length_drop]
  omega

theorem setL_at (l : List UInt8) (k : Nat) (t : List UInt8) (h : k + t.length ≤ l.length) (j : Nat) :
    (setL l k t)[j]? = if j < k then l[j]? else if j < k + t.length then t[j - k]? else l[j]? := by
  unfold setL
  have hk : (l.take k).length = k := by rw [List.length_take]; omega
  by_cases h1 : j < k
  · rw [if_pos h1, List.append_assoc, List.getElem?_append_left (by omega), List.getElem?_take_of_lt h1]
  · rw [if_neg h1]
    by_cases h2 : j < k + t.length
    · rw [if_pos h2, List.append_assoc, List.getElem?_append_right (by omega), hk, List.getElem?_append_left (by omega)]
    · rw [if_neg h2, List.getElem?_append_right (by rw [List.length_append]; omega), List.getElem?_drop, List.length_append, hk]
      congr 1
      omega

theorem addr_add0 (g j : Nat) : (⟨g, 0, none⟩ : Addr).add j = ⟨g, j, none⟩ := by unfold Addr.add; split <;> simp_all

theorem copy_str (W : World) (g o dLen dCap : Nat) (t : ByteArray) (hle : t.size ≤ dLen)
    (hc : ∀ j, j < t.size → (W.cell? ⟨g, o + j, none⟩).isSome = true) (hf : ∀ j, j < t.size → W.frozen? ⟨g, o + j, none⟩ = false) :
    (Builtin.copy_ #[47, 9] 3 #[.slice (some ⟨g, o, none⟩) dLen dCap, .string t]).run Try.prog W = .ok (.int .i64 t.size) (W.setCells g o (Lib.byteCells t.data.toList)) := by
  have hlen : (Lib.byteCells t.data.toList).length = t.size := by rw [Lib.byteCells_length, ← Lib.size_eq]
  have hst := run_storeCells_cells (P := Try.prog) g o (Lib.byteCells t.data.toList) 0 W (by rw [hlen]; simpa using hc) (by rw [hlen]; simpa using hf) (Lib.byteCells_one _)
  have hmin : Nat.min t.size dLen = t.size := Nat.min_eq_left hle
  have htk : List.take t.size (List.map (fun b : UInt8 => Value.int IntKind.u8 (b.toNat : Int)) t.data.toList) = Lib.byteCells t.data.toList := by
    rw [List.take_of_length_le (by rw [List.length_map, ← Lib.size_eq]; exact Nat.le_refl _)]
    rfl
  obtain ⟨i0, hi, _, _, _⟩ := info_parts (P := Try.prog) (e := 5) (z := .int .u8 0) (size := 1) (bytes := 1) (by kernel_rfl)
  simp [Builtin.copy_, run_underlying Try.underlying47, Builtin.lenOf, Builtin.firstCells, sizeOf, typeInfo, hi, hmin]
  rw [htk, hst]
  simp [Result.andThen]
  rfl

theorem below_setCells {B : Nat} {a : World} (g : Nat) (hg : B ≤ g) : ∀ (vs : List Value) (o : Nat) (w : World), Below B a w → Below B a (w.setCells g o vs)
  | [], _, _, h => h
  | v :: r, o, _, h => below_setCells g hg r (o + 1) _ (h.setCell (p := ⟨g, o, none⟩) hg v)

end Go.Proofs.Ytefenejeppmfiaa
