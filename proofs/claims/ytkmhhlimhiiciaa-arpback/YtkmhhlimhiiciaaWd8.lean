/- The contracts of package word's functions over the loaded program: Of at 2, 4 and 6 bytes, Two, Four, Six at places that are there; no memory that was there has turned. Conditions: numbers in their kinds' bounds, places within the text. -/
import Derived.Test.YtkmhhlimhiiciaaKit
import Derived.Test.YtkmhhlimhiiciaaMath
import Derived.Lib.BufferWrite
import Derived.Lib.Strings
import Derived.Laws.MakeOwn
import Derived.Laws.IdiomStrings
import Derived.Laws.IdiomCopy
import Derived.Deep.WholeRow
namespace Go.Proofs.Ytkmhhlimhiiciaa
open Go.RowKit

set_option maxHeartbeats 400000 in
theorem check_ok (s : ByteArray) (a n : Int) (w : World) (hs : s.size ≤ maxLen) (h1 : 0 ≤ a) (h2 : 0 ≤ n) (h : n ≤ (s.size : Int) - a) :
    Calls Try.prog 39 #[.string s, .int .i64 a, .int .i64 n] w fun e w' => e = .returned (.int .i64 0) ∧ w' = w := by
  unfold maxLen at hs
  go_enter Try.func39, Try.ntmps39
  go_wp2
  go_ret
  exact ⟨rfl, rfl⟩

def B (c : UInt8) : Value := .int .u8 (c.toNat : Int)

theorem B_byt (x k : Nat) : B (byt x k) = .int .u8 ((x : Int) / ((256 ^ k : Nat) : Int) % 256) := by
  unfold B
  rw [byt_toNat]
  congr 1

set_option maxHeartbeats 1000000 in
theorem spread_any (x : Nat) (w : World) (hx : x < 18446744073709551616) :
    Calls Try.prog 32 #[.int .u64 (x : Int)] w fun e w' => e = .returned (.agg #[B (byt x 7), B (byt x 6), B (byt x 5), B (byt x 4), B (byt x 3), B (byt x 2), B (byt x 1), B (byt x 0)]) ∧ Below w.heap.size w w' := by
  have e7 : B (byt x 7) = .int .u8 ((x : Int) / 72057594037927936) := by rw [B_byt]; congr 1; omega
  have e6 : B (byt x 6) = .int .u8 ((x : Int) / 281474976710656 % 256) := by rw [B_byt]; congr 1
  have e5 : B (byt x 5) = .int .u8 ((x : Int) / 1099511627776 % 256) := by rw [B_byt]; congr 1
  have e4 : B (byt x 4) = .int .u8 ((x : Int) / 4294967296 % 256) := by rw [B_byt]; congr 1
  have e3 : B (byt x 3) = .int .u8 ((x : Int) / 16777216 % 256) := by rw [B_byt]; congr 1
  have e2 : B (byt x 2) = .int .u8 ((x : Int) / 65536 % 256) := by rw [B_byt]; congr 1
  have e1 : B (byt x 1) = .int .u8 ((x : Int) / 256 % 256) := by rw [B_byt]; congr 1
  have e0 : B (byt x 0) = .int .u8 ((x : Int) % 256) := by rw [B_byt]; congr 1; omega
  rw [e0, e1, e2, e3, e4, e5, e6, e7]
  clear e0 e1 e2 e3 e4 e5 e6 e7
  go_enter Try.func32, Try.ntmps32
  go_wp2
  refine wp_loop_rounds 9 ?_
  rw [rounds_succ]; go_wp2
  rw [rounds_succ]; go_wp2
  rw [rounds_succ]; go_wp2
  rw [rounds_succ]; go_wp2
  rw [rounds_succ]; go_wp2
  rw [rounds_succ]; go_wp2
  rw [rounds_succ]; go_wp2
  rw [rounds_succ]; go_wp2
  rw [rounds_succ]; go_wp2
  exact bodyPost_ret (v := .agg #[.int .u8 ((x : Int) / 72057594037927936), .int .u8 ((x : Int) / 281474976710656 % 256), .int .u8 ((x : Int) / 1099511627776 % 256), .int .u8 ((x : Int) / 4294967296 % 256), .int .u8 ((x : Int) / 16777216 % 256), .int .u8 ((x : Int) / 65536 % 256), .int .u8 ((x : Int) / 256 % 256), .int .u8 ((x : Int) % 256)]) (by simp [results, Try.results32, go_sem]) rfl ⟨rfl, (((Below.refl _ _).alloc (Nat.le_refl _) _)).alloc (by simp) _⟩

set_option maxHeartbeats 1000000 in
theorem joined_any (c0 c1 c2 c3 c4 c5 c6 c7 : UInt8) (w : World) :
    Calls Try.prog 40 #[.agg #[B c0, B c1, B c2, B c3, B c4, B c5, B c6, B c7]] w fun e w' => e = .returned (.int .u64 (num [c0, c1, c2, c3, c4, c5, c6, c7] : Nat)) ∧ Below w.heap.size w w' := by
  have b0 := c0.toNat_lt; have b1 := c1.toNat_lt; have b2 := c2.toNat_lt; have b3 := c3.toNat_lt
  have b4 := c4.toNat_lt; have b5 := c5.toNat_lt; have b6 := c6.toNat_lt; have b7 := c7.toNat_lt
  have i0 : ∀ w, (Instr.index 67 (.agg #[.int .u8 (c0.toNat : Int), .int .u8 (c1.toNat : Int), .int .u8 (c2.toNat : Int), .int .u8 (c3.toNat : Int), .int .u8 (c4.toNat : Int), .int .u8 (c5.toNat : Int), .int .u8 (c6.toNat : Int), .int .u8 (c7.toNat : Int)]) (.int .i64 0)).run Try.prog w = .ok (.int .u8 (c0.toNat : Int)) w := fun _ => by kernel_rfl
  have i1 : ∀ w, (Instr.index 67 (.agg #[.int .u8 (c0.toNat : Int), .int .u8 (c1.toNat : Int), .int .u8 (c2.toNat : Int), .int .u8 (c3.toNat : Int), .int .u8 (c4.toNat : Int), .int .u8 (c5.toNat : Int), .int .u8 (c6.toNat : Int), .int .u8 (c7.toNat : Int)]) (.int .i64 1)).run Try.prog w = .ok (.int .u8 (c1.toNat : Int)) w := fun _ => by kernel_rfl
  have i2 : ∀ w, (Instr.index 67 (.agg #[.int .u8 (c0.toNat : Int), .int .u8 (c1.toNat : Int), .int .u8 (c2.toNat : Int), .int .u8 (c3.toNat : Int), .int .u8 (c4.toNat : Int), .int .u8 (c5.toNat : Int), .int .u8 (c6.toNat : Int), .int .u8 (c7.toNat : Int)]) (.int .i64 2)).run Try.prog w = .ok (.int .u8 (c2.toNat : Int)) w := fun _ => by kernel_rfl
  have i3 : ∀ w, (Instr.index 67 (.agg #[.int .u8 (c0.toNat : Int), .int .u8 (c1.toNat : Int), .int .u8 (c2.toNat : Int), .int .u8 (c3.toNat : Int), .int .u8 (c4.toNat : Int), .int .u8 (c5.toNat : Int), .int .u8 (c6.toNat : Int), .int .u8 (c7.toNat : Int)]) (.int .i64 3)).run Try.prog w = .ok (.int .u8 (c3.toNat : Int)) w := fun _ => by kernel_rfl
  have i4 : ∀ w, (Instr.index 67 (.agg #[.int .u8 (c0.toNat : Int), .int .u8 (c1.toNat : Int), .int .u8 (c2.toNat : Int), .int .u8 (c3.toNat : Int), .int .u8 (c4.toNat : Int), .int .u8 (c5.toNat : Int), .int .u8 (c6.toNat : Int), .int .u8 (c7.toNat : Int)]) (.int .i64 4)).run Try.prog w = .ok (.int .u8 (c4.toNat : Int)) w := fun _ => by kernel_rfl
  have i5 : ∀ w, (Instr.index 67 (.agg #[.int .u8 (c0.toNat : Int), .int .u8 (c1.toNat : Int), .int .u8 (c2.toNat : Int), .int .u8 (c3.toNat : Int), .int .u8 (c4.toNat : Int), .int .u8 (c5.toNat : Int), .int .u8 (c6.toNat : Int), .int .u8 (c7.toNat : Int)]) (.int .i64 5)).run Try.prog w = .ok (.int .u8 (c5.toNat : Int)) w := fun _ => by kernel_rfl
  have i6 : ∀ w, (Instr.index 67 (.agg #[.int .u8 (c0.toNat : Int), .int .u8 (c1.toNat : Int), .int .u8 (c2.toNat : Int), .int .u8 (c3.toNat : Int), .int .u8 (c4.toNat : Int), .int .u8 (c5.toNat : Int), .int .u8 (c6.toNat : Int), .int .u8 (c7.toNat : Int)]) (.int .i64 6)).run Try.prog w = .ok (.int .u8 (c6.toNat : Int)) w := fun _ => by kernel_rfl
  have i7 : ∀ w, (Instr.index 67 (.agg #[.int .u8 (c0.toNat : Int), .int .u8 (c1.toNat : Int), .int .u8 (c2.toNat : Int), .int .u8 (c3.toNat : Int), .int .u8 (c4.toNat : Int), .int .u8 (c5.toNat : Int), .int .u8 (c6.toNat : Int), .int .u8 (c7.toNat : Int)]) (.int .i64 7)).run Try.prog w = .ok (.int .u8 (c7.toNat : Int)) w := fun _ => by kernel_rfl
  unfold B
  go_enter Try.func40, Try.ntmps40
  go_wp2
  refine wp_loop_rounds 9 ?_
  rw [rounds_succ]; go_wp2
  rw [rounds_succ]; go_wp2
  rw [rounds_succ]; go_wp2
  rw [rounds_succ]; go_wp2
  rw [rounds_succ]; go_wp2
  rw [rounds_succ]; go_wp2
  rw [rounds_succ]; go_wp2
  rw [rounds_succ]; go_wp2
  rw [rounds_succ]; go_wp2
  go_ret
  refine ⟨?_, (Below.refl _ _).alloc (Nat.le_refl _) _⟩
  show Ending.returned (.int .u64 _) = Ending.returned (.int .u64 _)
  congr 2
  exact joined_num c0 c1 c2 c3 c4 c5 c6 c7

theorem num_zero (l : List UInt8) : num (0 :: l) = num l := by rw [num_cons]; simp

theorem B_zero : B 0 = .int .u8 0 := rfl

theorem below_one_drew (w : World) (o : Obj) : Below w.heap.size w (w.alloc o).drew := (below_one w o).trans ⟨rfl, rfl, rfl, Nat.le_refl _, fun _ _ => rfl⟩

theorem copied (w : World) (cur : Array Value) (o : Nat) (t : TypeId) (s : ByteArray) (dCap : Nat) (hfit : o + s.size ≤ cur.size) :
    (Builtin.copy_ #[48, 9] 3 #[.slice (some ⟨w.heap.size, o, none⟩) s.size dCap, .string s]).run Try.prog (w.alloc (.cells cur t)).drew =
      .ok (.int .i64 s.size) (w.alloc (.cells (cur.toList.take o ++ Lib.byteCells s.data.toList ++ cur.toList.drop (o + s.size)).toArray t)).drew := by
  have h := Lib.run_copy_row_string (P := Try.prog) (w.alloc (.cells cur t)).drew 48 9 3 5 w.heap.size o s.size dCap s cur t Try.underlying48 (by kernel_rfl) (heap_alloc_new w _) (Nat.le_refl _) hfit
  rw [h]
  have e : ∀ Y, ((w.alloc (.cells cur t)).drew).setRow w.heap.size Y = (w.alloc (.cells Y t)).drew := fun Y => by
    show ((w.alloc (.cells cur t)).setRow w.heap.size Y).drew = _
    rw [World.setRow_alloc_new]
  rw [e]
  rfl

theorem joined_2 (x0 x1 : UInt8) (w : World) :
    Calls Try.prog 40 #[.agg #[.int .u8 0, .int .u8 0, .int .u8 0, .int .u8 0, .int .u8 0, .int .u8 0, .int .u8 (x0.toNat : Int), .int .u8 (x1.toNat : Int)]] w fun e w' => e = .returned (.int .u64 (num [x0, x1] : Nat)) ∧ Below w.heap.size w w' := by
  have h := joined_any 0 0 0 0 0 0 x0 x1 w
  rw [num_zero, num_zero, num_zero, num_zero, num_zero, num_zero] at h
  exact h

set_option maxHeartbeats 400000 in
theorem read2_ok (s : ByteArray) (a : Int) (w : World) (hs : s.size ≤ maxLen) (h1 : 0 ≤ a) (h : a + 2 ≤ (s.size : Int)) (x0 x1 : UInt8) (hx : s.extract a.toNat (a + 2).toNat = ⟨#[x0, x1]⟩) :
    Calls Try.prog 36 #[.string s, .int .i64 a, .int .i64 2] w fun e w' => e = .returned (.tuple #[.int .u16 (num [x0, x1] : Nat), .int .i64 0]) ∧ Below w.heap.size w w' := by
  have hs' := hs
  unfold maxLen at hs
  have hcp : (Builtin.copy_ #[48, 9] 3 #[.slice (some ⟨w.heap.size, 6, none⟩) 2 2, .string ⟨#[x0, x1]⟩]).run Try.prog (w.alloc (.cells #[.int .u8 0, .int .u8 0, .int .u8 0, .int .u8 0, .int .u8 0, .int .u8 0, .int .u8 0, .int .u8 0] 67)).drew =
      .ok (.int .i64 2) (w.alloc (.cells #[.int .u8 0, .int .u8 0, .int .u8 0, .int .u8 0, .int .u8 0, .int .u8 0, .int .u8 (x0.toNat : Int), .int .u8 (x1.toNat : Int)] 67)).drew := copied w #[.int .u8 0, .int .u8 0, .int .u8 0, .int .u8 0, .int .u8 0, .int .u8 0, .int .u8 0, .int .u8 0] 6 67 ⟨#[x0, x1]⟩ 2 (by simp [ByteArray.size])
  have hb : num [x0, x1] < 65536 := by simpa using num_lt [x0, x1]
  go_enter Try.func36, Try.ntmps36
  go_wp2_with fail
  refine (check_ok s a 2 _ hs' h1 (by omega) (by omega)).mono ?_
  rintro e w' ⟨rfl, rfl⟩
  go_wp2_with fail
  go_region
  go_wp2_with fail
  refine (joined_2 x0 x1 _).mono ?_
  rintro e w1 ⟨rfl, hb1⟩
  go_wp2
  go_ret2
  exact ⟨rfl, (below_one_drew _ _).trans (hb1.mono (by simp))⟩

theorem joined_6 (x0 x1 x2 x3 x4 x5 : UInt8) (w : World) :
    Calls Try.prog 40 #[.agg #[.int .u8 0, .int .u8 0, .int .u8 (x0.toNat : Int), .int .u8 (x1.toNat : Int), .int .u8 (x2.toNat : Int), .int .u8 (x3.toNat : Int), .int .u8 (x4.toNat : Int), .int .u8 (x5.toNat : Int)]] w fun e w' => e = .returned (.int .u64 (num [x0, x1, x2, x3, x4, x5] : Nat)) ∧ Below w.heap.size w w' := by
  have h := joined_any 0 0 x0 x1 x2 x3 x4 x5 w
  rw [num_zero, num_zero] at h
  exact h

set_option maxHeartbeats 400000 in
theorem read6_ok (s : ByteArray) (a : Int) (w : World) (hs : s.size ≤ maxLen) (h1 : 0 ≤ a) (h : a + 6 ≤ (s.size : Int)) (x0 x1 x2 x3 x4 x5 : UInt8) (hx : s.extract a.toNat (a + 6).toNat = ⟨#[x0, x1, x2, x3, x4, x5]⟩) :
    Calls Try.prog 41 #[.string s, .int .i64 a, .int .i64 6] w fun e w' => e = .returned (.tuple #[.int .u64 (num [x0, x1, x2, x3, x4, x5] : Nat), .int .i64 0]) ∧ Below w.heap.size w w' := by
  have hs' := hs
  unfold maxLen at hs
  have hcp : (Builtin.copy_ #[48, 9] 3 #[.slice (some ⟨w.heap.size, 2, none⟩) 6 6, .string ⟨#[x0, x1, x2, x3, x4, x5]⟩]).run Try.prog (w.alloc (.cells #[.int .u8 0, .int .u8 0, .int .u8 0, .int .u8 0, .int .u8 0, .int .u8 0, .int .u8 0, .int .u8 0] 67)).drew =
      .ok (.int .i64 6) (w.alloc (.cells #[.int .u8 0, .int .u8 0, .int .u8 (x0.toNat : Int), .int .u8 (x1.toNat : Int), .int .u8 (x2.toNat : Int), .int .u8 (x3.toNat : Int), .int .u8 (x4.toNat : Int), .int .u8 (x5.toNat : Int)] 67)).drew := copied w #[.int .u8 0, .int .u8 0, .int .u8 0, .int .u8 0, .int .u8 0, .int .u8 0, .int .u8 0, .int .u8 0] 2 67 ⟨#[x0, x1, x2, x3, x4, x5]⟩ 6 (by simp [ByteArray.size])
  have hb : num [x0, x1, x2, x3, x4, x5] < 281474976710656 := by simpa using num_lt [x0, x1, x2, x3, x4, x5]
  go_enter Try.func41, Try.ntmps41
  go_wp2_with fail
  refine (check_ok s a 6 _ hs' h1 (by omega) (by omega)).mono ?_
  rintro e w' ⟨rfl, rfl⟩
  go_wp2_with fail
  go_region
  go_wp2_with fail
  refine (joined_6 x0 x1 x2 x3 x4 x5 _).mono ?_
  rintro e w1 ⟨rfl, hb1⟩
  go_wp2
  go_ret2
  exact ⟨rfl, (below_one_drew _ _).trans (hb1.mono (by simp))⟩

theorem joined_4 (x0 x1 x2 x3 : UInt8) (w : World) :
    Calls Try.prog 40 #[.agg #[.int .u8 0, .int .u8 0, .int .u8 0, .int .u8 0, .int .u8 (x0.toNat : Int), .int .u8 (x1.toNat : Int), .int .u8 (x2.toNat : Int), .int .u8 (x3.toNat : Int)]] w fun e w' => e = .returned (.int .u64 (num [x0, x1, x2, x3] : Nat)) ∧ Below w.heap.size w w' := by
  have h := joined_any 0 0 0 0 x0 x1 x2 x3 w
  rw [num_zero, num_zero, num_zero, num_zero] at h
  exact h

set_option maxHeartbeats 400000 in
theorem read4_ok (s : ByteArray) (a : Int) (w : World) (hs : s.size ≤ maxLen) (h1 : 0 ≤ a) (h : a + 4 ≤ (s.size : Int)) (x0 x1 x2 x3 : UInt8) (hx : s.extract a.toNat (a + 4).toNat = ⟨#[x0, x1, x2, x3]⟩) :
    Calls Try.prog 42 #[.string s, .int .i64 a, .int .i64 4] w fun e w' => e = .returned (.tuple #[.int .u32 (num [x0, x1, x2, x3] : Nat), .int .i64 0]) ∧ Below w.heap.size w w' := by
  have hs' := hs
  unfold maxLen at hs
  have hcp : (Builtin.copy_ #[48, 9] 3 #[.slice (some ⟨w.heap.size, 4, none⟩) 4 4, .string ⟨#[x0, x1, x2, x3]⟩]).run Try.prog (w.alloc (.cells #[.int .u8 0, .int .u8 0, .int .u8 0, .int .u8 0, .int .u8 0, .int .u8 0, .int .u8 0, .int .u8 0] 67)).drew =
      .ok (.int .i64 4) (w.alloc (.cells #[.int .u8 0, .int .u8 0, .int .u8 0, .int .u8 0, .int .u8 (x0.toNat : Int), .int .u8 (x1.toNat : Int), .int .u8 (x2.toNat : Int), .int .u8 (x3.toNat : Int)] 67)).drew := copied w #[.int .u8 0, .int .u8 0, .int .u8 0, .int .u8 0, .int .u8 0, .int .u8 0, .int .u8 0, .int .u8 0] 4 67 ⟨#[x0, x1, x2, x3]⟩ 4 (by simp [ByteArray.size])
  have hb : num [x0, x1, x2, x3] < 4294967296 := by simpa using num_lt [x0, x1, x2, x3]
  go_enter Try.func42, Try.ntmps42
  go_wp2_with fail
  refine (check_ok s a 4 _ hs' h1 (by omega) (by omega)).mono ?_
  rintro e w' ⟨rfl, rfl⟩
  go_wp2_with fail
  go_region
  go_wp2_with fail
  refine (joined_4 x0 x1 x2 x3 _).mono ?_
  rintro e w1 ⟨rfl, hb1⟩
  go_wp2
  go_ret2
  exact ⟨rfl, (below_one_drew _ _).trans (hb1.mono (by simp))⟩

def cells8 (x : Nat) : Array Value := #[.int .u8 ((byt x 7).toNat : Int), .int .u8 ((byt x 6).toNat : Int), .int .u8 ((byt x 5).toNat : Int), .int .u8 ((byt x 4).toNat : Int), .int .u8 ((byt x 3).toNat : Int), .int .u8 ((byt x 2).toNat : Int), .int .u8 ((byt x 1).toNat : Int), .int .u8 ((byt x 0).toNat : Int)]

theorem cells8_eq (x : Nat) : (cells8 x).toList = (ofB x 8).map B := rfl

theorem cells8_at (x m j : Nat) (hm : m ≤ 8) (hj : j < (ofB x m).length) : (cells8 x)[8 - m + j]? = some (.int .u8 ((ofB x m)[j].toNat : Int)) := by
  rw [← Array.getElem?_toList, cells8_eq]
  have hd : (ofB x 8).drop (8 - m) = ofB x m := by
    have := ofB_drop x m (8 - m)
    rwa [show m + (8 - m) = 8 from by omega] at this
  have e : ((ofB x 8).map B)[8 - m + j]? = (((ofB x 8).drop (8 - m)).map B)[j]? := by rw [List.map_drop, List.getElem?_drop]
  rw [e, hd, List.getElem?_map, List.getElem?_eq_getElem hj]
  rfl

theorem back8 (x m : Nat) (hm : m ≤ 8) (w1 : World) (cap : Nat) :
    (convert 48 9 (.slice (some ⟨w1.heap.size, 8 - m, none⟩) m cap)).run Try.prog (w1.alloc (.cells (cells8 x) 67)) = .ok (.string ⟨(ofB x m).toArray⟩) (w1.alloc (.cells (cells8 x) 67)) := by
  have h := run_convert_bytes_back (P := Try.prog) (w1.alloc (.cells (cells8 x) 67)) 48 9 5 ⟨w1.heap.size, 8 - m, none⟩ cap (ofB x m) Try.underlying48 Try.underlying5 Try.underlying9 (fun j hj => by
    have ha : (⟨w1.heap.size, 8 - m, none⟩ : Addr).add j = ⟨w1.heap.size, 8 - m + j, none⟩ := by unfold Addr.add; split <;> simp_all
    rw [ha, ← cells8_at x m j hm hj]
    simp only [World.cell?]
    rw [heap_alloc_new]
    rfl)
  rw [ofB_length] at h
  exact h

set_option maxHeartbeats 400000 in
theorem of_2 (x : Nat) (w : World) (hx : x < 18446744073709551616) :
    Calls Try.prog 24 #[.int .u64 (x : Int), .int .i64 2] w fun e w' => e = .returned (.string ⟨(ofB x 2).toArray⟩) ∧ Below w.heap.size w w' := by
  have hbk := back8 x 2 (by omega)
  unfold cells8 at hbk
  simp only [Nat.reduceSub] at hbk
  have HC := hide (spread_any x w hx)
  unfold B at HC
  go_enter Try.func24, Try.ntmps24
  go_wp2_with fail
  refine (unhide HC).mono ?_
  rintro e w1 ⟨rfl, hb⟩
  go_wp2
  go_ret
  exact ⟨rfl, hb.alloc hb.size _⟩

set_option maxHeartbeats 400000 in
theorem of_6 (x : Nat) (w : World) (hx : x < 18446744073709551616) :
    Calls Try.prog 24 #[.int .u64 (x : Int), .int .i64 6] w fun e w' => e = .returned (.string ⟨(ofB x 6).toArray⟩) ∧ Below w.heap.size w w' := by
  have hbk := back8 x 6 (by omega)
  unfold cells8 at hbk
  simp only [Nat.reduceSub] at hbk
  have HC := hide (spread_any x w hx)
  unfold B at HC
  go_enter Try.func24, Try.ntmps24
  go_wp2_with fail
  refine (unhide HC).mono ?_
  rintro e w1 ⟨rfl, hb⟩
  go_wp2
  go_ret
  exact ⟨rfl, hb.alloc hb.size _⟩

/-- the bytes of a field -/
def fld (s : ByteArray) (k n : Nat) : List UInt8 := (s.data.toList.drop k).take n
theorem fld_length {s : ByteArray} {k n : Nat} (h : k + n ≤ s.size) : (fld s k n).length = n := by
  have := Lib.size_eq s
  unfold fld
  rw [List.length_take, List.length_drop]
  omega
theorem extract_fld (s : ByteArray) (k n : Nat) : s.extract k (k + n) = ⟨(fld s k n).toArray⟩ := by
  rw [Lib.extract_eq, show k + n - k = n from by omega]
  rfl
theorem fld_lt (s : ByteArray) (k n : Nat) : num (fld s k n) < 256 ^ n := by
  have h := num_lt (fld s k n)
  have hl : (fld s k n).length ≤ n := by unfold fld; rw [List.length_take]; omega
  exact Nat.lt_of_lt_of_le h (Nat.pow_le_pow_right (by omega) hl)

theorem list2 (l : List UInt8) (h : l.length = 2) : ∃ a b, l = [a, b] := match l, h with
  | [a, b], _ => ⟨a, b, rfl⟩

theorem list6 (l : List UInt8) (h : l.length = 6) : ∃ a b c d e f, l = [a, b, c, d, e, f] := match l, h with
  | [a, b, c, d, e, f], _ => ⟨a, b, c, d, e, f, rfl⟩

set_option maxHeartbeats 400000 in
theorem two_ok (s : ByteArray) (k : Nat) (w : World) (hs : s.size ≤ maxLen) (h : k + 2 ≤ s.size) :
    Calls Try.prog 34 #[.string s, .int .i64 (k : Int)] w fun e w' => e = .returned (.tuple #[.int .u16 (num (fld s k 2) : Nat), .int .i64 0]) ∧ Below w.heap.size w w' := by
  obtain ⟨x0, x1, hx⟩ := list2 (fld s k 2) (fld_length h)
  have H := hide (fun w => read2_ok s (k : Int) w hs (by omega) (by omega) x0 x1 (by rw [show (k : Int).toNat = k from by omega, show ((k : Int) + 2).toNat = k + 2 from by omega, extract_fld, hx]))
  rw [hx]
  clear hx
  go_enter Try.func34, Try.ntmps34
  go_wp2_with fail
  refine (unhide H _).mono ?_
  rintro e w' ⟨rfl, hb⟩
  go_wp2_with fail
  go_ret2
  exact ⟨rfl, hb⟩

set_option maxHeartbeats 400000 in
theorem six_ok (s : ByteArray) (k : Nat) (w : World) (hs : s.size ≤ maxLen) (h : k + 6 ≤ s.size) :
    Calls Try.prog 37 #[.string s, .int .i64 (k : Int)] w fun e w' => e = .returned (.tuple #[.int .u64 (num (fld s k 6) : Nat), .int .i64 0]) ∧ Below w.heap.size w w' := by
  obtain ⟨x0, x1, x2, x3, x4, x5, hx⟩ := list6 (fld s k 6) (fld_length h)
  have H := hide (fun w => read6_ok s (k : Int) w hs (by omega) (by omega) x0 x1 x2 x3 x4 x5 (by rw [show (k : Int).toNat = k from by omega, show ((k : Int) + 6).toNat = k + 6 from by omega, extract_fld, hx]))
  rw [hx]
  clear hx
  go_enter Try.func37, Try.ntmps37
  go_wp2_with fail
  refine (unhide H _).mono ?_
  rintro e w' ⟨rfl, hb⟩
  go_wp2_with fail
  go_ret2
  exact ⟨rfl, hb⟩

set_option maxHeartbeats 400000 in
theorem of_4 (x : Nat) (w : World) (hx : x < 18446744073709551616) :
    Calls Try.prog 24 #[.int .u64 (x : Int), .int .i64 4] w fun e w' => e = .returned (.string ⟨(ofB x 4).toArray⟩) ∧ Below w.heap.size w w' := by
  have hbk := back8 x 4 (by omega)
  unfold cells8 at hbk
  simp only [Nat.reduceSub] at hbk
  have HC := hide (spread_any x w hx)
  unfold B at HC
  go_enter Try.func24, Try.ntmps24
  go_wp2_with fail
  refine (unhide HC).mono ?_
  rintro e w1 ⟨rfl, hb⟩
  go_wp2
  go_ret
  exact ⟨rfl, hb.alloc hb.size _⟩

theorem list4b (l : List UInt8) (h : l.length = 4) : ∃ a b c d, l = [a, b, c, d] := match l, h with
  | [a, b, c, d], _ => ⟨a, b, c, d, rfl⟩

set_option maxHeartbeats 400000 in
theorem four_ok (s : ByteArray) (k : Nat) (w : World) (hs : s.size ≤ maxLen) (h : k + 4 ≤ s.size) :
    Calls Try.prog 38 #[.string s, .int .i64 (k : Int)] w fun e w' => e = .returned (.tuple #[.int .u32 (num (fld s k 4) : Nat), .int .i64 0]) ∧ Below w.heap.size w w' := by
  obtain ⟨x0, x1, x2, x3, hx⟩ := list4b (fld s k 4) (fld_length h)
  have H := hide (fun w => read4_ok s (k : Int) w hs (by omega) (by omega) x0 x1 x2 x3 (by rw [show (k : Int).toNat = k from by omega, show ((k : Int) + 4).toNat = k + 4 from by omega, extract_fld, hx]))
  rw [hx]
  clear hx
  go_enter Try.func38, Try.ntmps38
  go_wp2_with fail
  refine (unhide H _).mono ?_
  rintro e w' ⟨rfl, hb⟩
  go_wp2_with fail
  go_ret2
  exact ⟨rfl, hb⟩

end Go.Proofs.Ytkmhhlimhiiciaa
