/- The contracts of package word's inner functions and of strings.Clone, over the loaded program: what each call answers; no memory that was there has turned. Conditions: those of each line (numbers in their kinds' bounds, texts no longer than may be). -/
import Derived.Test.YtgjalicobalnaaaRows
import Derived.Test.YtgjalicobalnaaaMath
import Derived.WalkKit
import Derived.WalkSpells
import Derived.WalkLawsBesides
import Derived.LoopN
import Derived.RegionTactic
import Derived.Lib.BufferWrite
import Derived.Lib.UnsafeStr
import Derived.Lib.Strings
import Derived.Laws.MakeOwn
import Derived.Laws.IdiomStrings
import Derived.Laws.IdiomCopy
import Derived.Deep.WholeRow
namespace Go.Proofs.Ytgjalicobalnaaa
open Go.RowKit

set_option maxHeartbeats 400000 in
theorem check_arg (s : ByteArray) (a n : Int) (w : World) (h : a < 0 ∨ n < 0) :
    Calls Try.prog 23 #[.string s, .int .i64 a, .int .i64 n] w fun e w' => e = .returned (.int .i64 2) ∧ w' = w := by
  by_cases h1 : a < 0
  · go_enter Try.func23, Try.ntmps23
    go_wp2
    go_ret
    exact ⟨rfl, rfl⟩
  · have h2 : n < 0 := by omega
    go_enter Try.func23, Try.ntmps23
    go_wp2
    go_ret
    exact ⟨rfl, rfl⟩

set_option maxHeartbeats 400000 in
theorem check_short (s : ByteArray) (a n : Int) (w : World) (hs : s.size ≤ maxLen) (h1 : 0 ≤ a) (h2 : 0 ≤ n) (ha : a ≤ 9223372036854775807) (h : (s.size : Int) - a < n) :
    Calls Try.prog 23 #[.string s, .int .i64 a, .int .i64 n] w fun e w' => e = .returned (.int .i64 10) ∧ w' = w := by
  unfold maxLen at hs
  go_enter Try.func23, Try.ntmps23
  go_wp2
  go_ret
  exact ⟨rfl, rfl⟩

set_option maxHeartbeats 400000 in
theorem check_ok (s : ByteArray) (a n : Int) (w : World) (hs : s.size ≤ maxLen) (h1 : 0 ≤ a) (h2 : 0 ≤ n) (h : n ≤ (s.size : Int) - a) :
    Calls Try.prog 23 #[.string s, .int .i64 a, .int .i64 n] w fun e w' => e = .returned (.int .i64 0) ∧ w' = w := by
  unfold maxLen at hs
  go_enter Try.func23, Try.ntmps23
  go_wp2
  go_ret
  exact ⟨rfl, rfl⟩

def B (c : UInt8) : Value := .int .u8 (c.toNat : Int)

theorem B_byt (x k : Nat) : B (byt x k) = .int .u8 ((x : Int) / ((256 ^ k : Nat) : Int) % 256) := by
  unfold B
  rw [byt_toNat]
  congr 1

set_option maxHeartbeats 1000000 in
theorem spread_any (x : Nat) (w : World) (hx : x < 18446744073709551616) :
    Calls Try.prog 25 #[.int .u64 (x : Int)] w fun e w' => e = .returned (.agg #[B (byt x 7), B (byt x 6), B (byt x 5), B (byt x 4), B (byt x 3), B (byt x 2), B (byt x 1), B (byt x 0)]) ∧ Below w.heap.size w w' := by
  have e7 : B (byt x 7) = .int .u8 ((x : Int) / 72057594037927936) := by rw [B_byt]; congr 1; omega
  have e6 : B (byt x 6) = .int .u8 ((x : Int) / 281474976710656 % 256) := by rw [B_byt]; congr 1
  have e5 : B (byt x 5) = .int .u8 ((x : Int) / 1099511627776 % 256) := by rw [B_byt]; congr 1
  have e4 : B (byt x 4) = .int .u8 ((x : Int) / 4294967296 % 256) := by rw [B_byt]; congr 1
  have e3 : B (byt x 3) = .int .u8 ((x : Int) / 16777216 % 256) := by rw [B_byt]; congr 1
  have e2 : B (byt x 2) = .int .u8 ((x : Int) / 65536 % 256) := by rw [B_byt]; congr 1
  have e1 : B (byt x 1) = .int .u8 ((x : Int) / 256 % 256) := by rw [B_byt]; congr 1
  have e0 : B (byt x 0) = .int .u8 ((x : Int) % 256) := by rw [B_byt]; congr 1; omega
  rw [e0, e1, e2, e3, e4, e5, e6, e7]
  clear e0 e1 e2 e3 e4 e5 e6 e7
  go_enter Try.func25, Try.ntmps25
  go_wp2
  refine wp_loop_rounds 9 ?_
  rw [rounds_succ]; go_wp2
  rw [rounds_succ]; go_wp2
  rw [rounds_succ]; go_wp2
  rw [rounds_succ]; go_wp2
  rw [rounds_succ]; go_wp2
  rw [rounds_succ]; go_wp2
  rw [rounds_succ]; go_wp2
  rw [rounds_succ]; go_wp2
  rw [rounds_succ]; go_wp2
  exact bodyPost_ret (v := .agg #[.int .u8 ((x : Int) / 72057594037927936), .int .u8 ((x : Int) / 281474976710656 % 256), .int .u8 ((x : Int) / 1099511627776 % 256), .int .u8 ((x : Int) / 4294967296 % 256), .int .u8 ((x : Int) / 16777216 % 256), .int .u8 ((x : Int) / 65536 % 256), .int .u8 ((x : Int) / 256 % 256), .int .u8 ((x : Int) % 256)]) (by simp [results, Try.results25, go_sem]) rfl ⟨rfl, (((Below.refl _ _).alloc (Nat.le_refl _) _)).alloc (by simp) _⟩

set_option maxHeartbeats 1000000 in
theorem joined_any (c0 c1 c2 c3 c4 c5 c6 c7 : UInt8) (w : World) :
    Calls Try.prog 26 #[.agg #[B c0, B c1, B c2, B c3, B c4, B c5, B c6, B c7]] w fun e w' => e = .returned (.int .u64 (num [c0, c1, c2, c3, c4, c5, c6, c7] : Nat)) ∧ Below w.heap.size w w' := by
  have b0 := c0.toNat_lt; have b1 := c1.toNat_lt; have b2 := c2.toNat_lt; have b3 := c3.toNat_lt
  have b4 := c4.toNat_lt; have b5 := c5.toNat_lt; have b6 := c6.toNat_lt; have b7 := c7.toNat_lt
  have i0 : ∀ w, (Instr.index 56 (.agg #[.int .u8 (c0.toNat : Int), .int .u8 (c1.toNat : Int), .int .u8 (c2.toNat : Int), .int .u8 (c3.toNat : Int), .int .u8 (c4.toNat : Int), .int .u8 (c5.toNat : Int), .int .u8 (c6.toNat : Int), .int .u8 (c7.toNat : Int)]) (.int .i64 0)).run Try.prog w = .ok (.int .u8 (c0.toNat : Int)) w := fun _ => by kernel_rfl
  have i1 : ∀ w, (Instr.index 56 (.agg #[.int .u8 (c0.toNat : Int), .int .u8 (c1.toNat : Int), .int .u8 (c2.toNat : Int), .int .u8 (c3.toNat : Int), .int .u8 (c4.toNat : Int), .int .u8 (c5.toNat : Int), .int .u8 (c6.toNat : Int), .int .u8 (c7.toNat : Int)]) (.int .i64 1)).run Try.prog w = .ok (.int .u8 (c1.toNat : Int)) w := fun _ => by kernel_rfl
  have i2 : ∀ w, (Instr.index 56 (.agg #[.int .u8 (c0.toNat : Int), .int .u8 (c1.toNat : Int), .int .u8 (c2.toNat : Int), .int .u8 (c3.toNat : Int), .int .u8 (c4.toNat : Int), .int .u8 (c5.toNat : Int), .int .u8 (c6.toNat : Int), .int .u8 (c7.toNat : Int)]) (.int .i64 2)).run Try.prog w = .ok (.int .u8 (c2.toNat : Int)) w := fun _ => by kernel_rfl
  have i3 : ∀ w, (Instr.index 56 (.agg #[.int .u8 (c0.toNat : Int), .int .u8 (c1.toNat : Int), .int .u8 (c2.toNat : Int), .int .u8 (c3.toNat : Int), .int .u8 (c4.toNat : Int), .int .u8 (c5.toNat : Int), .int .u8 (c6.toNat : Int), .int .u8 (c7.toNat : Int)]) (.int .i64 3)).run Try.prog w = .ok (.int .u8 (c3.toNat : Int)) w := fun _ => by kernel_rfl
  have i4 : ∀ w, (Instr.index 56 (.agg #[.int .u8 (c0.toNat : Int), .int .u8 (c1.toNat : Int), .int .u8 (c2.toNat : Int), .int .u8 (c3.toNat : Int), .int .u8 (c4.toNat : Int), .int .u8 (c5.toNat : Int), .int .u8 (c6.toNat : Int), .int .u8 (c7.toNat : Int)]) (.int .i64 4)).run Try.prog w = .ok (.int .u8 (c4.toNat : Int)) w := fun _ => by kernel_rfl
  have i5 : ∀ w, (Instr.index 56 (.agg #[.int .u8 (c0.toNat : Int), .int .u8 (c1.toNat : Int), .int .u8 (c2.toNat : Int), .int .u8 (c3.toNat : Int), .int .u8 (c4.toNat : Int), .int .u8 (c5.toNat : Int), .int .u8 (c6.toNat : Int), .int .u8 (c7.toNat : Int)]) (.int .i64 5)).run Try.prog w = .ok (.int .u8 (c5.toNat : Int)) w := fun _ => by kernel_rfl
  have i6 : ∀ w, (Instr.index 56 (.agg #[.int .u8 (c0.toNat : Int), .int .u8 (c1.toNat : Int), .int .u8 (c2.toNat : Int), .int .u8 (c3.toNat : Int), .int .u8 (c4.toNat : Int), .int .u8 (c5.toNat : Int), .int .u8 (c6.toNat : Int), .int .u8 (c7.toNat : Int)]) (.int .i64 6)).run Try.prog w = .ok (.int .u8 (c6.toNat : Int)) w := fun _ => by kernel_rfl
  have i7 : ∀ w, (Instr.index 56 (.agg #[.int .u8 (c0.toNat : Int), .int .u8 (c1.toNat : Int), .int .u8 (c2.toNat : Int), .int .u8 (c3.toNat : Int), .int .u8 (c4.toNat : Int), .int .u8 (c5.toNat : Int), .int .u8 (c6.toNat : Int), .int .u8 (c7.toNat : Int)]) (.int .i64 7)).run Try.prog w = .ok (.int .u8 (c7.toNat : Int)) w := fun _ => by kernel_rfl
  unfold B
  go_enter Try.func26, Try.ntmps26
  go_wp2
  refine wp_loop_rounds 9 ?_
  rw [rounds_succ]; go_wp2
  rw [rounds_succ]; go_wp2
  rw [rounds_succ]; go_wp2
  rw [rounds_succ]; go_wp2
  rw [rounds_succ]; go_wp2
  rw [rounds_succ]; go_wp2
  rw [rounds_succ]; go_wp2
  rw [rounds_succ]; go_wp2
  rw [rounds_succ]; go_wp2
  go_ret
  refine ⟨?_, (Below.refl _ _).alloc (Nat.le_refl _) _⟩
  show Ending.returned (.int .u64 _) = Ending.returned (.int .u64 _)
  congr 2
  exact joined_num c0 c1 c2 c3 c4 c5 c6 c7

theorem num_zero (l : List UInt8) : num (0 :: l) = num l := by rw [num_cons]; simp
theorem B_zero : B 0 = .int .u8 0 := rfl
theorem below_one (w : World) (o : Obj) : Below w.heap.size w (w.alloc o) := (Below.refl _ _).alloc (Nat.le_refl _) _

theorem below_one_drew (w : World) (o : Obj) : Below w.heap.size w (w.alloc o).drew := (below_one w o).trans ⟨rfl, rfl, rfl, Nat.le_refl _, fun _ _ => rfl⟩

theorem copied (w : World) (cur : Array Value) (o : Nat) (t : TypeId) (s : ByteArray) (dCap : Nat) (hfit : o + s.size ≤ cur.size) :
    (Builtin.copy_ #[58, 9] 3 #[.slice (some ⟨w.heap.size, o, none⟩) s.size dCap, .string s]).run Try.prog (w.alloc (.cells cur t)).drew =
      .ok (.int .i64 s.size) (w.alloc (.cells (cur.toList.take o ++ Lib.byteCells s.data.toList ++ cur.toList.drop (o + s.size)).toArray t)).drew := by
  have h := Lib.run_copy_row_string (P := Try.prog) (w.alloc (.cells cur t)).drew 58 9 3 5 w.heap.size o s.size dCap s cur t Try.underlying58 (by kernel_rfl) (heap_alloc_new w _) (Nat.le_refl _) hfit
  rw [h]
  have e : ∀ Y, ((w.alloc (.cells cur t)).drew).setRow w.heap.size Y = (w.alloc (.cells Y t)).drew := fun Y => by
    show ((w.alloc (.cells cur t)).setRow w.heap.size Y).drew = _
    rw [World.setRow_alloc_new]
  rw [e]
  rfl

theorem joined_1 (x0 : UInt8) (w : World) :
    Calls Try.prog 26 #[.agg #[.int .u8 0, .int .u8 0, .int .u8 0, .int .u8 0, .int .u8 0, .int .u8 0, .int .u8 0, .int .u8 (x0.toNat : Int)]] w fun e w' => e = .returned (.int .u64 (num [x0] : Nat)) ∧ Below w.heap.size w w' := by
  have h := joined_any 0 0 0 0 0 0 0 x0 w
  rw [num_zero, num_zero, num_zero, num_zero, num_zero, num_zero, num_zero] at h
  exact h

set_option maxHeartbeats 400000 in
theorem read1_ok (s : ByteArray) (a : Int) (w : World) (hs : s.size ≤ maxLen) (h1 : 0 ≤ a) (h : a + 1 ≤ (s.size : Int)) (x0 : UInt8) (hx : s.extract a.toNat (a + 1).toNat = ⟨#[x0]⟩) :
    Calls Try.prog 19 #[.string s, .int .i64 a, .int .i64 1] w fun e w' => e = .returned (.tuple #[.int .u8 (num [x0] : Nat), .int .i64 0]) ∧ Below w.heap.size w w' := by
  have hs' := hs
  unfold maxLen at hs
  have hcp : (Builtin.copy_ #[58, 9] 3 #[.slice (some ⟨w.heap.size, 7, none⟩) 1 1, .string ⟨#[x0]⟩]).run Try.prog (w.alloc (.cells #[.int .u8 0, .int .u8 0, .int .u8 0, .int .u8 0, .int .u8 0, .int .u8 0, .int .u8 0, .int .u8 0] 56)).drew =
      .ok (.int .i64 1) (w.alloc (.cells #[.int .u8 0, .int .u8 0, .int .u8 0, .int .u8 0, .int .u8 0, .int .u8 0, .int .u8 0, .int .u8 (x0.toNat : Int)] 56)).drew := copied w #[.int .u8 0, .int .u8 0, .int .u8 0, .int .u8 0, .int .u8 0, .int .u8 0, .int .u8 0, .int .u8 0] 7 56 ⟨#[x0]⟩ 1 (by simp [ByteArray.size])
  have hb : num [x0] < 256 := by simpa using num_lt [x0]
  go_enter Try.func19, Try.ntmps19
  go_wp2_with fail
  refine (check_ok s a 1 _ hs' h1 (by omega) (by omega)).mono ?_
  rintro e w' ⟨rfl, rfl⟩
  go_wp2_with fail
  go_region
  go_wp2_with fail
  refine (joined_1 x0 _).mono ?_
  rintro e w1 ⟨rfl, hb1⟩
  go_wp2
  go_ret2
  exact ⟨rfl, (below_one_drew _ _).trans (hb1.mono (by simp))⟩

theorem joined_2 (x0 x1 : UInt8) (w : World) :
    Calls Try.prog 26 #[.agg #[.int .u8 0, .int .u8 0, .int .u8 0, .int .u8 0, .int .u8 0, .int .u8 0, .int .u8 (x0.toNat : Int), .int .u8 (x1.toNat : Int)]] w fun e w' => e = .returned (.int .u64 (num [x0, x1] : Nat)) ∧ Below w.heap.size w w' := by
  have h := joined_any 0 0 0 0 0 0 x0 x1 w
  rw [num_zero, num_zero, num_zero, num_zero, num_zero, num_zero] at h
  exact h

set_option maxHeartbeats 400000 in
theorem read2_ok (s : ByteArray) (a : Int) (w : World) (hs : s.size ≤ maxLen) (h1 : 0 ≤ a) (h : a + 2 ≤ (s.size : Int)) (x0 x1 : UInt8) (hx : s.extract a.toNat (a + 2).toNat = ⟨#[x0, x1]⟩) :
    Calls Try.prog 20 #[.string s, .int .i64 a, .int .i64 2] w fun e w' => e = .returned (.tuple #[.int .u16 (num [x0, x1] : Nat), .int .i64 0]) ∧ Below w.heap.size w w' := by
  have hs' := hs
  unfold maxLen at hs
  have hcp : (Builtin.copy_ #[58, 9] 3 #[.slice (some ⟨w.heap.size, 6, none⟩) 2 2, .string ⟨#[x0, x1]⟩]).run Try.prog (w.alloc (.cells #[.int .u8 0, .int .u8 0, .int .u8 0, .int .u8 0, .int .u8 0, .int .u8 0, .int .u8 0, .int .u8 0] 56)).drew =
      .ok (.int .i64 2) (w.alloc (.cells #[.int .u8 0, .int .u8 0, .int .u8 0, .int .u8 0, .int .u8 0, .int .u8 0, .int .u8 (x0.toNat : Int), .int .u8 (x1.toNat : Int)] 56)).drew := copied w #[.int .u8 0, .int .u8 0, .int .u8 0, .int .u8 0, .int .u8 0, .int .u8 0, .int .u8 0, .int .u8 0] 6 56 ⟨#[x0, x1]⟩ 2 (by simp [ByteArray.size])
  have hb : num [x0, x1] < 65536 := by simpa using num_lt [x0, x1]
  go_enter Try.func20, Try.ntmps20
  go_wp2_with fail
  refine (check_ok s a 2 _ hs' h1 (by omega) (by omega)).mono ?_
  rintro e w' ⟨rfl, rfl⟩
  go_wp2_with fail
  go_region
  go_wp2_with fail
  refine (joined_2 x0 x1 _).mono ?_
  rintro e w1 ⟨rfl, hb1⟩
  go_wp2
  go_ret2
  exact ⟨rfl, (below_one_drew _ _).trans (hb1.mono (by simp))⟩

theorem joined_4 (x0 x1 x2 x3 : UInt8) (w : World) :
    Calls Try.prog 26 #[.agg #[.int .u8 0, .int .u8 0, .int .u8 0, .int .u8 0, .int .u8 (x0.toNat : Int), .int .u8 (x1.toNat : Int), .int .u8 (x2.toNat : Int), .int .u8 (x3.toNat : Int)]] w fun e w' => e = .returned (.int .u64 (num [x0, x1, x2, x3] : Nat)) ∧ Below w.heap.size w w' := by
  have h := joined_any 0 0 0 0 x0 x1 x2 x3 w
  rw [num_zero, num_zero, num_zero, num_zero] at h
  exact h

set_option maxHeartbeats 400000 in
theorem read4_ok (s : ByteArray) (a : Int) (w : World) (hs : s.size ≤ maxLen) (h1 : 0 ≤ a) (h : a + 4 ≤ (s.size : Int)) (x0 x1 x2 x3 : UInt8) (hx : s.extract a.toNat (a + 4).toNat = ⟨#[x0, x1, x2, x3]⟩) :
    Calls Try.prog 21 #[.string s, .int .i64 a, .int .i64 4] w fun e w' => e = .returned (.tuple #[.int .u32 (num [x0, x1, x2, x3] : Nat), .int .i64 0]) ∧ Below w.heap.size w w' := by
  have hs' := hs
  unfold maxLen at hs
  have hcp : (Builtin.copy_ #[58, 9] 3 #[.slice (some ⟨w.heap.size, 4, none⟩) 4 4, .string ⟨#[x0, x1, x2, x3]⟩]).run Try.prog (w.alloc (.cells #[.int .u8 0, .int .u8 0, .int .u8 0, .int .u8 0, .int .u8 0, .int .u8 0, .int .u8 0, .int .u8 0] 56)).drew =
      .ok (.int .i64 4) (w.alloc (.cells #[.int .u8 0, .int .u8 0, .int .u8 0, .int .u8 0, .int .u8 (x0.toNat : Int), .int .u8 (x1.toNat : Int), .int .u8 (x2.toNat : Int), .int .u8 (x3.toNat : Int)] 56)).drew := copied w #[.int .u8 0, .int .u8 0, .int .u8 0, .int .u8 0, .int .u8 0, .int .u8 0, .int .u8 0, .int .u8 0] 4 56 ⟨#[x0, x1, x2, x3]⟩ 4 (by simp [ByteArray.size])
  have hb : num [x0, x1, x2, x3] < 4294967296 := by simpa using num_lt [x0, x1, x2, x3]
  go_enter Try.func21, Try.ntmps21
  go_wp2_with fail
  refine (check_ok s a 4 _ hs' h1 (by omega) (by omega)).mono ?_
  rintro e w' ⟨rfl, rfl⟩
  go_wp2_with fail
  go_region
  go_wp2_with fail
  refine (joined_4 x0 x1 x2 x3 _).mono ?_
  rintro e w1 ⟨rfl, hb1⟩
  go_wp2
  go_ret2
  exact ⟨rfl, (below_one_drew _ _).trans (hb1.mono (by simp))⟩

theorem joined_6 (x0 x1 x2 x3 x4 x5 : UInt8) (w : World) :
    Calls Try.prog 26 #[.agg #[.int .u8 0, .int .u8 0, .int .u8 (x0.toNat : Int), .int .u8 (x1.toNat : Int), .int .u8 (x2.toNat : Int), .int .u8 (x3.toNat : Int), .int .u8 (x4.toNat : Int), .int .u8 (x5.toNat : Int)]] w fun e w' => e = .returned (.int .u64 (num [x0, x1, x2, x3, x4, x5] : Nat)) ∧ Below w.heap.size w w' := by
  have h := joined_any 0 0 x0 x1 x2 x3 x4 x5 w
  rw [num_zero, num_zero] at h
  exact h

set_option maxHeartbeats 400000 in
theorem read6_ok (s : ByteArray) (a : Int) (w : World) (hs : s.size ≤ maxLen) (h1 : 0 ≤ a) (h : a + 6 ≤ (s.size : Int)) (x0 x1 x2 x3 x4 x5 : UInt8) (hx : s.extract a.toNat (a + 6).toNat = ⟨#[x0, x1, x2, x3, x4, x5]⟩) :
    Calls Try.prog 22 #[.string s, .int .i64 a, .int .i64 6] w fun e w' => e = .returned (.tuple #[.int .u64 (num [x0, x1, x2, x3, x4, x5] : Nat), .int .i64 0]) ∧ Below w.heap.size w w' := by
  have hs' := hs
  unfold maxLen at hs
  have hcp : (Builtin.copy_ #[58, 9] 3 #[.slice (some ⟨w.heap.size, 2, none⟩) 6 6, .string ⟨#[x0, x1, x2, x3, x4, x5]⟩]).run Try.prog (w.alloc (.cells #[.int .u8 0, .int .u8 0, .int .u8 0, .int .u8 0, .int .u8 0, .int .u8 0, .int .u8 0, .int .u8 0] 56)).drew =
      .ok (.int .i64 6) (w.alloc (.cells #[.int .u8 0, .int .u8 0, .int .u8 (x0.toNat : Int), .int .u8 (x1.toNat : Int), .int .u8 (x2.toNat : Int), .int .u8 (x3.toNat : Int), .int .u8 (x4.toNat : Int), .int .u8 (x5.toNat : Int)] 56)).drew := copied w #[.int .u8 0, .int .u8 0, .int .u8 0, .int .u8 0, .int .u8 0, .int .u8 0, .int .u8 0, .int .u8 0] 2 56 ⟨#[x0, x1, x2, x3, x4, x5]⟩ 6 (by simp [ByteArray.size])
  have hb : num [x0, x1, x2, x3, x4, x5] < 281474976710656 := by simpa using num_lt [x0, x1, x2, x3, x4, x5]
  go_enter Try.func22, Try.ntmps22
  go_wp2_with fail
  refine (check_ok s a 6 _ hs' h1 (by omega) (by omega)).mono ?_
  rintro e w' ⟨rfl, rfl⟩
  go_wp2_with fail
  go_region
  go_wp2_with fail
  refine (joined_6 x0 x1 x2 x3 x4 x5 _).mono ?_
  rintro e w1 ⟨rfl, hb1⟩
  go_wp2
  go_ret2
  exact ⟨rfl, (below_one_drew _ _).trans (hb1.mono (by simp))⟩

end Go.Proofs.Ytgjalicobalnaaa
