/- The contracts of package word's exported functions, over the loaded program: what each call answers, for every input; no memory that was there has turned. Conditions: numbers in their kinds' bounds, texts of at most 2 to the power of 40 bytes. -/
import Derived.Test.YtgjalicobalnaaaWord
namespace Go.Proofs.Ytgjalicobalnaaa
open Go.RowKit

def errAt (size : Nat) (a n : Int) : Int := if a < 0 ∨ n < 0 then 2 else if (size : Int) - a < n then 10 else 0
theorem errAt_arg {size : Nat} {a n : Int} (h : a < 0 ∨ n < 0) : errAt size a n = 2 := by unfold errAt; rw [if_pos h]
theorem errAt_short {size : Nat} {a n : Int} (h1 : 0 ≤ a) (h2 : 0 ≤ n) (h : (size : Int) - a < n) : errAt size a n = 10 := by unfold errAt; rw [if_neg (by omega), if_pos h]
theorem errAt_ok {size : Nat} {a n : Int} (h1 : 0 ≤ a) (h2 : 0 ≤ n) (h : n ≤ (size : Int) - a) : errAt size a n = 0 := by unfold errAt; rw [if_neg (by omega), if_neg (by omega)]
theorem errAt_cases (size : Nat) (a n : Int) : ((a < 0 ∨ n < 0) ∧ errAt size a n = 2) ∨ (0 ≤ a ∧ 0 ≤ n ∧ (size : Int) - a < n ∧ errAt size a n = 10) ∨ (0 ≤ a ∧ 0 ≤ n ∧ n ≤ (size : Int) - a ∧ errAt size a n = 0) := by
  by_cases h : a < 0 ∨ n < 0
  · exact .inl ⟨h, errAt_arg h⟩
  · by_cases h2 : (size : Int) - a < n
    · exact .inr (.inl ⟨by omega, by omega, h2, errAt_short (by omega) (by omega) h2⟩)
    · exact .inr (.inr ⟨by omega, by omega, by omega, errAt_ok (by omega) (by omega) (by omega)⟩)

def field (s : ByteArray) (a n : Int) : List UInt8 := (s.data.toList.drop a.toNat).take n.toNat
theorem field_length {s : ByteArray} {a n : Int} (h1 : 0 ≤ a) (h2 : 0 ≤ n) (h : n ≤ (s.size : Int) - a) : (field s a n).length = n.toNat := by
  have := Lib.size_eq s
  unfold field
  rw [List.length_take, List.length_drop]
  omega
theorem extract_field {s : ByteArray} {a n : Int} (h1 : 0 ≤ a) (h2 : 0 ≤ n) : s.extract a.toNat (a + n).toNat = ⟨(field s a n).toArray⟩ := by
  rw [Lib.extract_eq, show (a + n).toNat - a.toNat = n.toNat from by omega]
  rfl
def numAt (s : ByteArray) (a n : Int) : Nat := if errAt s.size a n = 0 then num (field s a n) else 0
def textAt (s : ByteArray) (a n : Int) : ByteArray := if errAt s.size a n = 0 then s.extract a.toNat (a + n).toNat else ⟨#[]⟩

theorem list1 (l : List UInt8) (h : l.length = 1) : ∃ a, l = [a] := match l, h with
  | [a], _ => ⟨a, rfl⟩
theorem list2 (l : List UInt8) (h : l.length = 2) : ∃ a b, l = [a, b] := match l, h with
  | [a, b], _ => ⟨a, b, rfl⟩
theorem list4 (l : List UInt8) (h : l.length = 4) : ∃ a b c d, l = [a, b, c, d] := match l, h with
  | [a, b, c, d], _ => ⟨a, b, c, d, rfl⟩
theorem list6 (l : List UInt8) (h : l.length = 6) : ∃ a b c d e f, l = [a, b, c, d, e, f] := match l, h with
  | [a, b, c, d, e, f], _ => ⟨a, b, c, d, e, f, rfl⟩

theorem numAt_lt1 (s : ByteArray) (a : Int) : numAt s a 1 < 256 := by
  unfold numAt
  split
  · rename_i h
    rcases errAt_cases s.size a 1 with ⟨_, h'⟩ | ⟨_, _, _, h'⟩ | ⟨h1, h2, h3, _⟩
    · rw [h'] at h; omega
    · rw [h'] at h; omega
    · have hl := field_length h1 h2 h3
      have := num_lt (field s a 1)
      rw [hl] at this
      simpa using this
  · omega

set_option maxHeartbeats 400000 in
theorem read1_any (s : ByteArray) (a : Int) (w : World) (hs : s.size ≤ maxLen) (ha : a ≤ 9223372036854775807) :
    Calls Try.prog 19 #[.string s, .int .i64 a, .int .i64 1] w fun e w' => e = .returned (.tuple #[.int .u8 (numAt s a 1 : Nat), .int .i64 (errAt s.size a 1)]) ∧ Below w.heap.size w w' := by
  rcases errAt_cases s.size a 1 with ⟨h, he⟩ | ⟨h1, h2, h3, he⟩ | ⟨h1, h2, h3, he⟩
  · have hn : numAt s a 1 = 0 := by unfold numAt; rw [he]; rfl
    rw [he, hn]
    go_enter Try.func19, Try.ntmps19
    go_wp2_with fail
    refine (check_arg s a 1 _ h).mono ?_
    rintro e w' ⟨rfl, rfl⟩
    go_wp2
    go_ret2
    exact ⟨rfl, Below.refl _ _⟩
  · have hn : numAt s a 1 = 0 := by unfold numAt; rw [he]; rfl
    rw [he, hn]
    go_enter Try.func19, Try.ntmps19
    go_wp2_with fail
    refine (check_short s a 1 _ hs h1 h2 ha h3).mono ?_
    rintro e w' ⟨rfl, rfl⟩
    go_wp2
    go_ret2
    exact ⟨rfl, Below.refl _ _⟩
  · obtain ⟨x0, hx⟩ := list1 (field s a 1) (field_length h1 h2 h3)
    have hn : numAt s a 1 = num [x0] := by unfold numAt; rw [he, if_pos rfl, hx]
    rw [he, hn]
    exact read1_ok s a w hs h1 (by omega) x0 (by rw [extract_field h1 h2, hx])

set_option maxHeartbeats 400000 in
theorem byte_any (s : ByteArray) (a : Int) (w : World) (hs : s.size ≤ maxLen) (ha : a ≤ 9223372036854775807) :
    Calls Try.prog 7 #[.string s, .int .i64 a] w fun e w' => e = .returned (.tuple #[.int .u8 (numAt s a 1 : Nat), .int .i64 (errAt s.size a 1)]) ∧ Below w.heap.size w w' := by
  go_enter Try.func7, Try.ntmps7
  go_wp2_with fail
  refine (read1_any s a _ hs ha).mono ?_
  rintro e w' ⟨rfl, hb⟩
  go_wp2
  go_ret2
  exact ⟨rfl, hb⟩

theorem numAt_lt2 (s : ByteArray) (a : Int) : numAt s a 2 < 65536 := by
  unfold numAt
  split
  · rename_i h
    rcases errAt_cases s.size a 2 with ⟨_, h'⟩ | ⟨_, _, _, h'⟩ | ⟨h1, h2, h3, _⟩
    · rw [h'] at h; omega
    · rw [h'] at h; omega
    · have hl := field_length h1 h2 h3
      have := num_lt (field s a 2)
      rw [hl] at this
      simpa using this
  · omega

set_option maxHeartbeats 400000 in
theorem read2_any (s : ByteArray) (a : Int) (w : World) (hs : s.size ≤ maxLen) (ha : a ≤ 9223372036854775807) :
    Calls Try.prog 20 #[.string s, .int .i64 a, .int .i64 2] w fun e w' => e = .returned (.tuple #[.int .u16 (numAt s a 2 : Nat), .int .i64 (errAt s.size a 2)]) ∧ Below w.heap.size w w' := by
  rcases errAt_cases s.size a 2 with ⟨h, he⟩ | ⟨h1, h2, h3, he⟩ | ⟨h1, h2, h3, he⟩
  · have hn : numAt s a 2 = 0 := by unfold numAt; rw [he]; rfl
    rw [he, hn]
    go_enter Try.func20, Try.ntmps20
    go_wp2_with fail
    refine (check_arg s a 2 _ h).mono ?_
    rintro e w' ⟨rfl, rfl⟩
    go_wp2
    go_ret2
    exact ⟨rfl, Below.refl _ _⟩
  · have hn : numAt s a 2 = 0 := by unfold numAt; rw [he]; rfl
    rw [he, hn]
    go_enter Try.func20, Try.ntmps20
    go_wp2_with fail
    refine (check_short s a 2 _ hs h1 h2 ha h3).mono ?_
    rintro e w' ⟨rfl, rfl⟩
    go_wp2
    go_ret2
    exact ⟨rfl, Below.refl _ _⟩
  · obtain ⟨x0, x1, hx⟩ := list2 (field s a 2) (field_length h1 h2 h3)
    have hn : numAt s a 2 = num [x0, x1] := by unfold numAt; rw [he, if_pos rfl, hx]
    rw [he, hn]
    exact read2_ok s a w hs h1 (by omega) x0 x1 (by rw [extract_field h1 h2, hx])

set_option maxHeartbeats 400000 in
theorem two_any (s : ByteArray) (a : Int) (w : World) (hs : s.size ≤ maxLen) (ha : a ≤ 9223372036854775807) :
    Calls Try.prog 9 #[.string s, .int .i64 a] w fun e w' => e = .returned (.tuple #[.int .u16 (numAt s a 2 : Nat), .int .i64 (errAt s.size a 2)]) ∧ Below w.heap.size w w' := by
  go_enter Try.func9, Try.ntmps9
  go_wp2_with fail
  refine (read2_any s a _ hs ha).mono ?_
  rintro e w' ⟨rfl, hb⟩
  go_wp2
  go_ret2
  exact ⟨rfl, hb⟩

theorem numAt_lt4 (s : ByteArray) (a : Int) : numAt s a 4 < 4294967296 := by
  unfold numAt
  split
  · rename_i h
    rcases errAt_cases s.size a 4 with ⟨_, h'⟩ | ⟨_, _, _, h'⟩ | ⟨h1, h2, h3, _⟩
    · rw [h'] at h; omega
    · rw [h'] at h; omega
    · have hl := field_length h1 h2 h3
      have := num_lt (field s a 4)
      rw [hl] at this
      simpa using this
  · omega

set_option maxHeartbeats 400000 in
theorem read4_any (s : ByteArray) (a : Int) (w : World) (hs : s.size ≤ maxLen) (ha : a ≤ 9223372036854775807) :
    Calls Try.prog 21 #[.string s, .int .i64 a, .int .i64 4] w fun e w' => e = .returned (.tuple #[.int .u32 (numAt s a 4 : Nat), .int .i64 (errAt s.size a 4)]) ∧ Below w.heap.size w w' := by
  rcases errAt_cases s.size a 4 with ⟨h, he⟩ | ⟨h1, h2, h3, he⟩ | ⟨h1, h2, h3, he⟩
  · have hn : numAt s a 4 = 0 := by unfold numAt; rw [he]; rfl
    rw [he, hn]
    go_enter Try.func21, Try.ntmps21
    go_wp2_with fail
    refine (check_arg s a 4 _ h).mono ?_
    rintro e w' ⟨rfl, rfl⟩
    go_wp2
    go_ret2
    exact ⟨rfl, Below.refl _ _⟩
  · have hn : numAt s a 4 = 0 := by unfold numAt; rw [he]; rfl
    rw [he, hn]
    go_enter Try.func21, Try.ntmps21
    go_wp2_with fail
    refine (check_short s a 4 _ hs h1 h2 ha h3).mono ?_
    rintro e w' ⟨rfl, rfl⟩
    go_wp2
    go_ret2
    exact ⟨rfl, Below.refl _ _⟩
  · obtain ⟨x0, x1, x2, x3, hx⟩ := list4 (field s a 4) (field_length h1 h2 h3)
    have hn : numAt s a 4 = num [x0, x1, x2, x3] := by unfold numAt; rw [he, if_pos rfl, hx]
    rw [he, hn]
    exact read4_ok s a w hs h1 (by omega) x0 x1 x2 x3 (by rw [extract_field h1 h2, hx])

set_option maxHeartbeats 400000 in
theorem four_any (s : ByteArray) (a : Int) (w : World) (hs : s.size ≤ maxLen) (ha : a ≤ 9223372036854775807) :
    Calls Try.prog 10 #[.string s, .int .i64 a] w fun e w' => e = .returned (.tuple #[.int .u32 (numAt s a 4 : Nat), .int .i64 (errAt s.size a 4)]) ∧ Below w.heap.size w w' := by
  go_enter Try.func10, Try.ntmps10
  go_wp2_with fail
  refine (read4_any s a _ hs ha).mono ?_
  rintro e w' ⟨rfl, hb⟩
  go_wp2
  go_ret2
  exact ⟨rfl, hb⟩

theorem numAt_lt6 (s : ByteArray) (a : Int) : numAt s a 6 < 281474976710656 := by
  unfold numAt
  split
  · rename_i h
    rcases errAt_cases s.size a 6 with ⟨_, h'⟩ | ⟨_, _, _, h'⟩ | ⟨h1, h2, h3, _⟩
    · rw [h'] at h; omega
    · rw [h'] at h; omega
    · have hl := field_length h1 h2 h3
      have := num_lt (field s a 6)
      rw [hl] at this
      simpa using this
  · omega

set_option maxHeartbeats 400000 in
theorem read6_any (s : ByteArray) (a : Int) (w : World) (hs : s.size ≤ maxLen) (ha : a ≤ 9223372036854775807) :
    Calls Try.prog 22 #[.string s, .int .i64 a, .int .i64 6] w fun e w' => e = .returned (.tuple #[.int .u64 (numAt s a 6 : Nat), .int .i64 (errAt s.size a 6)]) ∧ Below w.heap.size w w' := by
  rcases errAt_cases s.size a 6 with ⟨h, he⟩ | ⟨h1, h2, h3, he⟩ | ⟨h1, h2, h3, he⟩
  · have hn : numAt s a 6 = 0 := by unfold numAt; rw [he]; rfl
    rw [he, hn]
    go_enter Try.func22, Try.ntmps22
    go_wp2_with fail
    refine (check_arg s a 6 _ h).mono ?_
    rintro e w' ⟨rfl, rfl⟩
    go_wp2
    go_ret2
    exact ⟨rfl, Below.refl _ _⟩
  · have hn : numAt s a 6 = 0 := by unfold numAt; rw [he]; rfl
    rw [he, hn]
    go_enter Try.func22, Try.ntmps22
    go_wp2_with fail
    refine (check_short s a 6 _ hs h1 h2 ha h3).mono ?_
    rintro e w' ⟨rfl, rfl⟩
    go_wp2
    go_ret2
    exact ⟨rfl, Below.refl _ _⟩
  · obtain ⟨x0, x1, x2, x3, x4, x5, hx⟩ := list6 (field s a 6) (field_length h1 h2 h3)
    have hn : numAt s a 6 = num [x0, x1, x2, x3, x4, x5] := by unfold numAt; rw [he, if_pos rfl, hx]
    rw [he, hn]
    exact read6_ok s a w hs h1 (by omega) x0 x1 x2 x3 x4 x5 (by rw [extract_field h1 h2, hx])

set_option maxHeartbeats 400000 in
theorem six_any (s : ByteArray) (a : Int) (w : World) (hs : s.size ≤ maxLen) (ha : a ≤ 9223372036854775807) :
    Calls Try.prog 11 #[.string s, .int .i64 a] w fun e w' => e = .returned (.tuple #[.int .u64 (numAt s a 6 : Nat), .int .i64 (errAt s.size a 6)]) ∧ Below w.heap.size w w' := by
  go_enter Try.func11, Try.ntmps11
  go_wp2_with fail
  refine (read6_any s a _ hs ha).mono ?_
  rintro e w' ⟨rfl, hb⟩
  go_wp2
  go_ret2
  exact ⟨rfl, hb⟩

set_option maxHeartbeats 400000 in
theorem sliteclone_any (s : ByteArray) (w : World) (hlim : s.size ≤ 281474976710656) :
    Calls Try.prog 27 #[.string s] w fun e w' => e = .returned (.string s) ∧ Below w.heap.size w w' := by
  by_cases h0 : s.size = 0
  · have hs : s = ⟨#[]⟩ := ByteArray.ext (Array.eq_empty_of_size_eq_zero h0)
    subst hs
    go_enter Try.func27, Try.ntmps27
    go_wp2
    go_ret
    exact ⟨rfl, Below.refl _ _⟩
  · obtain ⟨i0, hi, hz0, hz1, hz2⟩ := info_parts (P := Try.prog) (e := 5) (z := .int .u8 0) (size := 1) (bytes := 1) (by kernel_rfl)
    obtain ⟨M, hM⟩ : ∃ M, M = madeCells (Value.int .u8 0).cells (((s.size : Nat) : Int).toNat * i0.size) := ⟨_, rfl⟩
    have hMs : M.size = s.size := by rw [hM, size_madeCells, hz1]; simp
    have hmk : (Instr.makeSlice 58 (.int .i64 (s.size : Int)) (.int .i64 (s.size : Int))).run Try.prog w = .ok (.slice (some ⟨w.heap.size, 0, none⟩) s.size s.size) (w.alloc (.cells M 5)) := by
      have h := run_make (P := Try.prog) w 58 5 i0 (.int .u8 0) Try.underlying58 hi hz0 .i64 .i64 (s.size : Int) (s.size : Int) (by omega) (by omega) (by rw [hz2]; omega) (by omega)
      rw [← hM] at h
      simpa using h
    clear hM
    obtain ⟨Y, hY⟩ : ∃ Y, Y = (M.toList.take 0 ++ Lib.byteCells s.data.toList ++ M.toList.drop (0 + s.size)).toArray := ⟨_, rfl⟩
    have hcp : (Builtin.copy_ #[58, 9] 3 #[.slice (some ⟨w.heap.size, 0, none⟩) s.size s.size, .string s]).run Try.prog (w.alloc (.cells M 5)) = .ok (.int .i64 s.size) (w.alloc (.cells Y 5)) := by
      have h := Lib.run_copy_row_string (P := Try.prog) (w.alloc (.cells M 5)) 58 9 3 5 w.heap.size 0 s.size s.size s M 5 Try.underlying58 (by kernel_rfl) (heap_alloc_new w _) (Nat.le_refl _) (by omega)
      rw [← hY, World.setRow_alloc_new] at h
      exact h
    have hYl : Y.toList = Lib.byteCells s.data.toList := by
      rw [hY, List.toList_toArray, List.take_zero, List.nil_append, List.drop_of_length_le (by rw [Array.length_toList]; omega), List.append_nil]
    have hYs : Y.size = s.size := by rw [← Array.length_toList, hYl, Lib.byteCells_length, ← Lib.size_eq]
    have hgY : (w.alloc (.cells Y 5)).heap[w.heap.size]? = some (.cells Y 5 (0, 0)) := heap_alloc_new w _
    have hne : s.data.toList ≠ [] := fun e => h0 (by rw [Lib.size_eq, e]; rfl)
    have hUS := Lib.run_unsafeString_row (P := Try.prog) (w.alloc (.cells Y 5)) 60 3 9 5 Try.underlying60 (by kernel_rfl) w.heap.size Y.size (by unfold World.shape?; rw [hgY]) s.data.toList hne (by rw [← Lib.size_eq]; omega) (by rw [← Lib.size_eq]; omega)
      (fun j x hx => Lib.cells_of_row hgY Y.size j _ (by rw [List.take_of_length_le (by rw [Array.length_toList]; exact Nat.le_refl _), hYl]; simp [Lib.byteCells, hx]))
    rw [← Lib.size_eq] at hUS
    clear hY
    go_enter Try.func27, Try.ntmps27
    go_wp2
    go_ret
    exact ⟨rfl, Lib.below_freeze (below_one w _) (p := ⟨w.heap.size, 0, none⟩) (Nat.le_refl _) _⟩

set_option maxHeartbeats 400000 in
theorem clone_any (s : ByteArray) (w : World) (hlim : s.size ≤ 281474976710656) :
    Calls Try.prog 24 #[.string s] w fun e w' => e = .returned (.string s) ∧ Below w.heap.size w w' := by
  go_enter Try.func24, Try.ntmps24
  go_wp2_with fail
  refine (sliteclone_any s _ hlim).mono ?_
  rintro e w' ⟨rfl, hb⟩
  go_wp2
  go_ret
  exact ⟨rfl, hb⟩


end Go.Proofs.Ytgjalicobalnaaa
