/- The contracts of word.Of at 2 and 4 bytes and of word.Four at a text of 4 bytes, over the loaded program; no memory that was there has turned. Conditions: numbers in their kinds' bounds. -/
import Derived.Test.YtnglkadfnacmcaaDoorKit
import Derived.Test.YtnglkadfnacmcaaDoorMath
import Derived.Lib.BufferWrite
import Derived.Lib.Strings
import Derived.Laws.MakeOwn
import Derived.Laws.IdiomStrings
import Derived.Laws.IdiomCopy
import Derived.Deep.WholeRow
namespace Go.Proofs.YtnglkadfnacmcaaDoor
open Go.RowKit

set_option maxHeartbeats 400000 in
theorem check_ok (s : ByteArray) (a n : Int) (w : World) (hs : s.size ≤ maxLen) (h1 : 0 ≤ a) (h2 : 0 ≤ n) (h : n ≤ (s.size : Int) - a) :
    Calls Tryd.prog 78 #[.string s, .int .i64 a, .int .i64 n] w fun e w' => e = .returned (.int .i64 0) ∧ w' = w := by
  unfold maxLen at hs
  go_enter Tryd.func78, Tryd.ntmps78
  go_wp2
  go_ret
  exact ⟨rfl, rfl⟩

def B (c : UInt8) : Value := .int .u8 (c.toNat : Int)

theorem B_byt (x k : Nat) : B (byt x k) = .int .u8 ((x : Int) / ((256 ^ k : Nat) : Int) % 256) := by
  unfold B
  rw [byt_toNat]
  congr 1

set_option maxHeartbeats 1000000 in
theorem spread_any (x : Nat) (w : World) (hx : x < 18446744073709551616) :
    Calls Tryd.prog 62 #[.int .u64 (x : Int)] w fun e w' => e = .returned (.agg #[B (byt x 7), B (byt x 6), B (byt x 5), B (byt x 4), B (byt x 3), B (byt x 2), B (byt x 1), B (byt x 0)]) ∧ Below w.heap.size w w' := by
  have e7 : B (byt x 7) = .int .u8 ((x : Int) / 72057594037927936) := by rw [B_byt]; congr 1; omega
  have e6 : B (byt x 6) = .int .u8 ((x : Int) / 281474976710656 % 256) := by rw [B_byt]; congr 1
  have e5 : B (byt x 5) = .int .u8 ((x : Int) / 1099511627776 % 256) := by rw [B_byt]; congr 1
  have e4 : B (byt x 4) = .int .u8 ((x : Int) / 4294967296 % 256) := by rw [B_byt]; congr 1
  have e3 : B (byt x 3) = .int .u8 ((x : Int) / 16777216 % 256) := by rw [B_byt]; congr 1
  have e2 : B (byt x 2) = .int .u8 ((x : Int) / 65536 % 256) := by rw [B_byt]; congr 1
  have e1 : B (byt x 1) = .int .u8 ((x : Int) / 256 % 256) := by rw [B_byt]; congr 1
  have e0 : B (byt x 0) = .int .u8 ((x : Int) % 256) := by rw [B_byt]; congr 1; omega
  rw [e0, e1, e2, e3, e4, e5, e6, e7]
  clear e0 e1 e2 e3 e4 e5 e6 e7
  go_enter Tryd.func62, Tryd.ntmps62
  go_wp2
  refine wp_loop_rounds 9 ?_
  rw [rounds_succ]; go_wp2
  rw [rounds_succ]; go_wp2
  rw [rounds_succ]; go_wp2
  rw [rounds_succ]; go_wp2
  rw [rounds_succ]; go_wp2
  rw [rounds_succ]; go_wp2
  rw [rounds_succ]; go_wp2
  rw [rounds_succ]; go_wp2
  rw [rounds_succ]; go_wp2
  exact bodyPost_ret (v := .agg #[.int .u8 ((x : Int) / 72057594037927936), .int .u8 ((x : Int) / 281474976710656 % 256), .int .u8 ((x : Int) / 1099511627776 % 256), .int .u8 ((x : Int) / 4294967296 % 256), .int .u8 ((x : Int) / 16777216 % 256), .int .u8 ((x : Int) / 65536 % 256), .int .u8 ((x : Int) / 256 % 256), .int .u8 ((x : Int) % 256)]) (by simp [results, Tryd.results62, go_sem]) rfl ⟨rfl, (((Below.refl _ _).alloc (Nat.le_refl _) _)).alloc (by simp) _⟩

set_option maxHeartbeats 1000000 in
theorem joined_any (c0 c1 c2 c3 c4 c5 c6 c7 : UInt8) (w : World) :
    Calls Tryd.prog 79 #[.agg #[B c0, B c1, B c2, B c3, B c4, B c5, B c6, B c7]] w fun e w' => e = .returned (.int .u64 (num [c0, c1, c2, c3, c4, c5, c6, c7] : Nat)) ∧ Below w.heap.size w w' := by
  have b0 := c0.toNat_lt; have b1 := c1.toNat_lt; have b2 := c2.toNat_lt; have b3 := c3.toNat_lt
  have b4 := c4.toNat_lt; have b5 := c5.toNat_lt; have b6 := c6.toNat_lt; have b7 := c7.toNat_lt
  have i0 : ∀ w, (Instr.index 84 (.agg #[.int .u8 (c0.toNat : Int), .int .u8 (c1.toNat : Int), .int .u8 (c2.toNat : Int), .int .u8 (c3.toNat : Int), .int .u8 (c4.toNat : Int), .int .u8 (c5.toNat : Int), .int .u8 (c6.toNat : Int), .int .u8 (c7.toNat : Int)]) (.int .i64 0)).run Tryd.prog w = .ok (.int .u8 (c0.toNat : Int)) w := fun _ => by kernel_rfl
  have i1 : ∀ w, (Instr.index 84 (.agg #[.int .u8 (c0.toNat : Int), .int .u8 (c1.toNat : Int), .int .u8 (c2.toNat : Int), .int .u8 (c3.toNat : Int), .int .u8 (c4.toNat : Int), .int .u8 (c5.toNat : Int), .int .u8 (c6.toNat : Int), .int .u8 (c7.toNat : Int)]) (.int .i64 1)).run Tryd.prog w = .ok (.int .u8 (c1.toNat : Int)) w := fun _ => by kernel_rfl
  have i2 : ∀ w, (Instr.index 84 (.agg #[.int .u8 (c0.toNat : Int), .int .u8 (c1.toNat : Int), .int .u8 (c2.toNat : Int), .int .u8 (c3.toNat : Int), .int .u8 (c4.toNat : Int), .int .u8 (c5.toNat : Int), .int .u8 (c6.toNat : Int), .int .u8 (c7.toNat : Int)]) (.int .i64 2)).run Tryd.prog w = .ok (.int .u8 (c2.toNat : Int)) w := fun _ => by kernel_rfl
  have i3 : ∀ w, (Instr.index 84 (.agg #[.int .u8 (c0.toNat : Int), .int .u8 (c1.toNat : Int), .int .u8 (c2.toNat : Int), .int .u8 (c3.toNat : Int), .int .u8 (c4.toNat : Int), .int .u8 (c5.toNat : Int), .int .u8 (c6.toNat : Int), .int .u8 (c7.toNat : Int)]) (.int .i64 3)).run Tryd.prog w = .ok (.int .u8 (c3.toNat : Int)) w := fun _ => by kernel_rfl
  have i4 : ∀ w, (Instr.index 84 (.agg #[.int .u8 (c0.toNat : Int), .int .u8 (c1.toNat : Int), .int .u8 (c2.toNat : Int), .int .u8 (c3.toNat : Int), .int .u8 (c4.toNat : Int), .int .u8 (c5.toNat : Int), .int .u8 (c6.toNat : Int), .int .u8 (c7.toNat : Int)]) (.int .i64 4)).run Tryd.prog w = .ok (.int .u8 (c4.toNat : Int)) w := fun _ => by kernel_rfl
  have i5 : ∀ w, (Instr.index 84 (.agg #[.int .u8 (c0.toNat : Int), .int .u8 (c1.toNat : Int), .int .u8 (c2.toNat : Int), .int .u8 (c3.toNat : Int), .int .u8 (c4.toNat : Int), .int .u8 (c5.toNat : Int), .int .u8 (c6.toNat : Int), .int .u8 (c7.toNat : Int)]) (.int .i64 5)).run Tryd.prog w = .ok (.int .u8 (c5.toNat : Int)) w := fun _ => by kernel_rfl
  have i6 : ∀ w, (Instr.index 84 (.agg #[.int .u8 (c0.toNat : Int), .int .u8 (c1.toNat : Int), .int .u8 (c2.toNat : Int), .int .u8 (c3.toNat : Int), .int .u8 (c4.toNat : Int), .int .u8 (c5.toNat : Int), .int .u8 (c6.toNat : Int), .int .u8 (c7.toNat : Int)]) (.int .i64 6)).run Tryd.prog w = .ok (.int .u8 (c6.toNat : Int)) w := fun _ => by kernel_rfl
  have i7 : ∀ w, (Instr.index 84 (.agg #[.int .u8 (c0.toNat : Int), .int .u8 (c1.toNat : Int), .int .u8 (c2.toNat : Int), .int .u8 (c3.toNat : Int), .int .u8 (c4.toNat : Int), .int .u8 (c5.toNat : Int), .int .u8 (c6.toNat : Int), .int .u8 (c7.toNat : Int)]) (.int .i64 7)).run Tryd.prog w = .ok (.int .u8 (c7.toNat : Int)) w := fun _ => by kernel_rfl
  unfold B
  go_enter Tryd.func79, Tryd.ntmps79
  go_wp2
  refine wp_loop_rounds 9 ?_
  rw [rounds_succ]; go_wp2
  rw [rounds_succ]; go_wp2
  rw [rounds_succ]; go_wp2
  rw [rounds_succ]; go_wp2
  rw [rounds_succ]; go_wp2
  rw [rounds_succ]; go_wp2
  rw [rounds_succ]; go_wp2
  rw [rounds_succ]; go_wp2
  rw [rounds_succ]; go_wp2
  go_ret
  refine ⟨?_, (Below.refl _ _).alloc (Nat.le_refl _) _⟩
  show Ending.returned (.int .u64 _) = Ending.returned (.int .u64 _)
  congr 2
  exact joined_num c0 c1 c2 c3 c4 c5 c6 c7

theorem num_zero (l : List UInt8) : num (0 :: l) = num l := by rw [num_cons]; simp

theorem B_zero : B 0 = .int .u8 0 := rfl

theorem below_one_drew (w : World) (o : Obj) : Below w.heap.size w (w.alloc o).drew := (below_one w o).trans ⟨rfl, rfl, rfl, Nat.le_refl _, fun _ _ => rfl⟩

theorem copied (w : World) (cur : Array Value) (o : Nat) (t : TypeId) (s : ByteArray) (dCap : Nat) (hfit : o + s.size ≤ cur.size) :
    (Builtin.copy_ #[71, 9] 3 #[.slice (some ⟨w.heap.size, o, none⟩) s.size dCap, .string s]).run Tryd.prog (w.alloc (.cells cur t)).drew =
      .ok (.int .i64 s.size) (w.alloc (.cells (cur.toList.take o ++ Lib.byteCells s.data.toList ++ cur.toList.drop (o + s.size)).toArray t)).drew := by
  have h := Lib.run_copy_row_string (P := Tryd.prog) (w.alloc (.cells cur t)).drew 71 9 3 5 w.heap.size o s.size dCap s cur t Tryd.underlying71 (by kernel_rfl) (heap_alloc_new w _) (Nat.le_refl _) hfit
  rw [h]
  have e : ∀ Y, ((w.alloc (.cells cur t)).drew).setRow w.heap.size Y = (w.alloc (.cells Y t)).drew := fun Y => by
    show ((w.alloc (.cells cur t)).setRow w.heap.size Y).drew = _
    rw [World.setRow_alloc_new]
  rw [e]
  rfl

theorem joined_4 (x0 x1 x2 x3 : UInt8) (w : World) :
    Calls Tryd.prog 79 #[.agg #[.int .u8 0, .int .u8 0, .int .u8 0, .int .u8 0, .int .u8 (x0.toNat : Int), .int .u8 (x1.toNat : Int), .int .u8 (x2.toNat : Int), .int .u8 (x3.toNat : Int)]] w fun e w' => e = .returned (.int .u64 (num [x0, x1, x2, x3] : Nat)) ∧ Below w.heap.size w w' := by
  have h := joined_any 0 0 0 0 x0 x1 x2 x3 w
  rw [num_zero, num_zero, num_zero, num_zero] at h
  exact h

set_option maxHeartbeats 400000 in
theorem read4_ok (s : ByteArray) (a : Int) (w : World) (hs : s.size ≤ maxLen) (h1 : 0 ≤ a) (h : a + 4 ≤ (s.size : Int)) (x0 x1 x2 x3 : UInt8) (hx : s.extract a.toNat (a + 4).toNat = ⟨#[x0, x1, x2, x3]⟩) :
    Calls Tryd.prog 58 #[.string s, .int .i64 a, .int .i64 4] w fun e w' => e = .returned (.tuple #[.int .u32 (num [x0, x1, x2, x3] : Nat), .int .i64 0]) ∧ Below w.heap.size w w' := by
  have hs' := hs
  unfold maxLen at hs
  have hcp : (Builtin.copy_ #[71, 9] 3 #[.slice (some ⟨w.heap.size, 4, none⟩) 4 4, .string ⟨#[x0, x1, x2, x3]⟩]).run Tryd.prog (w.alloc (.cells #[.int .u8 0, .int .u8 0, .int .u8 0, .int .u8 0, .int .u8 0, .int .u8 0, .int .u8 0, .int .u8 0] 84)).drew =
      .ok (.int .i64 4) (w.alloc (.cells #[.int .u8 0, .int .u8 0, .int .u8 0, .int .u8 0, .int .u8 (x0.toNat : Int), .int .u8 (x1.toNat : Int), .int .u8 (x2.toNat : Int), .int .u8 (x3.toNat : Int)] 84)).drew := copied w #[.int .u8 0, .int .u8 0, .int .u8 0, .int .u8 0, .int .u8 0, .int .u8 0, .int .u8 0, .int .u8 0] 4 84 ⟨#[x0, x1, x2, x3]⟩ 4 (by simp [ByteArray.size])
  have hb : num [x0, x1, x2, x3] < 4294967296 := by simpa using num_lt [x0, x1, x2, x3]
  go_enter Tryd.func58, Tryd.ntmps58
  go_wp2_with fail
  refine (check_ok s a 4 _ hs' h1 (by omega) (by omega)).mono ?_
  rintro e w' ⟨rfl, rfl⟩
  go_wp2_with fail
  go_region
  go_wp2_with fail
  refine (joined_4 x0 x1 x2 x3 _).mono ?_
  rintro e w1 ⟨rfl, hb1⟩
  go_wp2
  go_ret2
  exact ⟨rfl, (below_one_drew _ _).trans (hb1.mono (by simp))⟩

def cells8 (x : Nat) : Array Value := #[.int .u8 ((byt x 7).toNat : Int), .int .u8 ((byt x 6).toNat : Int), .int .u8 ((byt x 5).toNat : Int), .int .u8 ((byt x 4).toNat : Int), .int .u8 ((byt x 3).toNat : Int), .int .u8 ((byt x 2).toNat : Int), .int .u8 ((byt x 1).toNat : Int), .int .u8 ((byt x 0).toNat : Int)]

theorem cells8_eq (x : Nat) : (cells8 x).toList = (ofB x 8).map B := rfl

theorem cells8_at (x m j : Nat) (hm : m ≤ 8) (hj : j < (ofB x m).length) : (cells8 x)[8 - m + j]? = some (.int .u8 ((ofB x m)[j].toNat : Int)) := by
  rw [← Array.getElem?_toList, cells8_eq]
  have hd : (ofB x 8).drop (8 - m) = ofB x m := by
    have := ofB_drop x m (8 - m)
    rwa [show m + (8 - m) = 8 from by omega] at this
  have e : ((ofB x 8).map B)[8 - m + j]? = (((ofB x 8).drop (8 - m)).map B)[j]? := by rw [List.map_drop, List.getElem?_drop]
  rw [e, hd, List.getElem?_map, List.getElem?_eq_getElem hj]
  rfl

theorem back8 (x m : Nat) (hm : m ≤ 8) (w1 : World) (cap : Nat) :
    (convert 71 9 (.slice (some ⟨w1.heap.size, 8 - m, none⟩) m cap)).run Tryd.prog (w1.alloc (.cells (cells8 x) 84)) = .ok (.string ⟨(ofB x m).toArray⟩) (w1.alloc (.cells (cells8 x) 84)) := by
  have h := run_convert_bytes_back (P := Tryd.prog) (w1.alloc (.cells (cells8 x) 84)) 71 9 5 ⟨w1.heap.size, 8 - m, none⟩ cap (ofB x m) Tryd.underlying71 Tryd.underlying5 Tryd.underlying9 (fun j hj => by
    have ha : (⟨w1.heap.size, 8 - m, none⟩ : Addr).add j = ⟨w1.heap.size, 8 - m + j, none⟩ := by unfold Addr.add; split <;> simp_all
    rw [ha, ← cells8_at x m j hm hj]
    simp only [World.cell?]
    rw [heap_alloc_new]
    rfl)
  rw [ofB_length] at h
  exact h

set_option maxHeartbeats 400000 in
theorem of_2 (x : Nat) (w : World) (hx : x < 18446744073709551616) :
    Calls Tryd.prog 50 #[.int .u64 (x : Int), .int .i64 2] w fun e w' => e = .returned (.string ⟨(ofB x 2).toArray⟩) ∧ Below w.heap.size w w' := by
  have hbk := back8 x 2 (by omega)
  unfold cells8 at hbk
  simp only [Nat.reduceSub] at hbk
  have HC := hide (spread_any x w hx)
  unfold B at HC
  go_enter Tryd.func50, Tryd.ntmps50
  go_wp2_with fail
  refine (unhide HC).mono ?_
  rintro e w1 ⟨rfl, hb⟩
  go_wp2
  go_ret
  exact ⟨rfl, hb.alloc hb.size _⟩

set_option maxHeartbeats 400000 in
theorem of_4 (x : Nat) (w : World) (hx : x < 18446744073709551616) :
    Calls Tryd.prog 50 #[.int .u64 (x : Int), .int .i64 4] w fun e w' => e = .returned (.string ⟨(ofB x 4).toArray⟩) ∧ Below w.heap.size w w' := by
  have hbk := back8 x 4 (by omega)
  unfold cells8 at hbk
  simp only [Nat.reduceSub] at hbk
  have HC := hide (spread_any x w hx)
  unfold B at HC
  go_enter Tryd.func50, Tryd.ntmps50
  go_wp2_with fail
  refine (unhide HC).mono ?_
  rintro e w1 ⟨rfl, hb⟩
  go_wp2
  go_ret
  exact ⟨rfl, hb.alloc hb.size _⟩

set_option maxHeartbeats 400000 in
theorem wfour_ok (x0 x1 x2 x3 : UInt8) (w : World) :
    Calls Tryd.prog 40 #[.string ⟨#[x0, x1, x2, x3]⟩, .int .i64 0] w fun e w' => e = .returned (.tuple #[.int .u32 (num [x0, x1, x2, x3] : Nat), .int .i64 0]) ∧ Below w.heap.size w w' := by
  have H := hide (fun w => read4_ok ⟨#[x0, x1, x2, x3]⟩ 0 w (by simp [ByteArray.size, maxLen]) (by omega) (by simp [ByteArray.size]) x0 x1 x2 x3 (by rfl))
  go_enter Tryd.func40, Tryd.ntmps40
  go_wp2_with fail
  refine (unhide H _).mono ?_
  rintro e w1 ⟨rfl, b1⟩
  go_wp2_with fail
  go_ret2
  exact ⟨rfl, b1⟩

end Go.Proofs.YtnglkadfnacmcaaDoor
