/- The contracts of word.spread and word.Of, over the loaded program: the n lowest bytes of a number, the highest first; no memory that was there has turned. Conditions: the number in its kind's bounds. -/
import Derived.Test.YtekljiakofmhnaaKit
import Derived.Test.YtekljiakofmhnaaMath
import Derived.WalkKit
import Derived.WalkSpells
import Derived.WalkLawsBesides
import Derived.LoopN
import Derived.RegionTactic
import Derived.Lib.Strings
import Derived.Laws.MakeOwn
import Derived.Laws.IdiomStrings
import Derived.Laws.IdiomCopy
import Derived.Deep.WholeRow
namespace Go.Proofs.Ytekljiakofmhnaa
open Go.RowKit

def B (c : UInt8) : Value := .int .u8 (c.toNat : Int)

theorem B_byt (x k : Nat) : B (byt x k) = .int .u8 ((x : Int) / ((256 ^ k : Nat) : Int) % 256) := by
  unfold B
  rw [byt_toNat]
  congr 1

set_option maxHeartbeats 1000000 in
theorem spread_any (x : Nat) (w : World) (hx : x < 18446744073709551616) :
    Calls Try.prog 51 #[.int .u64 (x : Int)] w fun e w' => e = .returned (.agg #[B (byt x 7), B (byt x 6), B (byt x 5), B (byt x 4), B (byt x 3), B (byt x 2), B (byt x 1), B (byt x 0)]) ∧ Below w.heap.size w w' := by
  have e7 : B (byt x 7) = .int .u8 ((x : Int) / 72057594037927936) := by rw [B_byt]; congr 1; omega
  have e6 : B (byt x 6) = .int .u8 ((x : Int) / 281474976710656 % 256) := by rw [B_byt]; congr 1
  have e5 : B (byt x 5) = .int .u8 ((x : Int) / 1099511627776 % 256) := by rw [B_byt]; congr 1
  have e4 : B (byt x 4) = .int .u8 ((x : Int) / 4294967296 % 256) := by rw [B_byt]; congr 1
  have e3 : B (byt x 3) = .int .u8 ((x : Int) / 16777216 % 256) := by rw [B_byt]; congr 1
  have e2 : B (byt x 2) = .int .u8 ((x : Int) / 65536 % 256) := by rw [B_byt]; congr 1
  have e1 : B (byt x 1) = .int .u8 ((x : Int) / 256 % 256) := by rw [B_byt]; congr 1
  have e0 : B (byt x 0) = .int .u8 ((x : Int) % 256) := by rw [B_byt]; congr 1; omega
  rw [e0, e1, e2, e3, e4, e5, e6, e7]
  clear e0 e1 e2 e3 e4 e5 e6 e7
  go_enter Try.func51, Try.ntmps51
  go_wp2
  refine wp_loop_rounds 9 ?_
  rw [rounds_succ]; go_wp2
  rw [rounds_succ]; go_wp2
  rw [rounds_succ]; go_wp2
  rw [rounds_succ]; go_wp2
  rw [rounds_succ]; go_wp2
  rw [rounds_succ]; go_wp2
  rw [rounds_succ]; go_wp2
  rw [rounds_succ]; go_wp2
  rw [rounds_succ]; go_wp2
  exact bodyPost_ret (v := .agg #[.int .u8 ((x : Int) / 72057594037927936), .int .u8 ((x : Int) / 281474976710656 % 256), .int .u8 ((x : Int) / 1099511627776 % 256), .int .u8 ((x : Int) / 4294967296 % 256), .int .u8 ((x : Int) / 16777216 % 256), .int .u8 ((x : Int) / 65536 % 256), .int .u8 ((x : Int) / 256 % 256), .int .u8 ((x : Int) % 256)]) (by simp [results, Try.results51, go_sem]) rfl ⟨rfl, (((Below.refl _ _).alloc (Nat.le_refl _) _)).alloc (by simp) _⟩

theorem below_one_drew (w : World) (o : Obj) : Below w.heap.size w (w.alloc o).drew := (below_one w o).trans ⟨rfl, rfl, rfl, Nat.le_refl _, fun _ _ => rfl⟩

def cells8 (x : Nat) : Array Value := #[.int .u8 ((byt x 7).toNat : Int), .int .u8 ((byt x 6).toNat : Int), .int .u8 ((byt x 5).toNat : Int), .int .u8 ((byt x 4).toNat : Int), .int .u8 ((byt x 3).toNat : Int), .int .u8 ((byt x 2).toNat : Int), .int .u8 ((byt x 1).toNat : Int), .int .u8 ((byt x 0).toNat : Int)]

theorem cells8_eq (x : Nat) : (cells8 x).toList = (ofB x 8).map B := rfl

theorem cells8_at (x m j : Nat) (hm : m ≤ 8) (hj : j < (ofB x m).length) : (cells8 x)[8 - m + j]? = some (.int .u8 ((ofB x m)[j].toNat : Int)) := by
  rw [← Array.getElem?_toList, cells8_eq]
  have hd : (ofB x 8).drop (8 - m) = ofB x m := by
    have := ofB_drop x m (8 - m)
    rwa [show m + (8 - m) = 8 from by omega] at this
  have e : ((ofB x 8).map B)[8 - m + j]? = (((ofB x 8).drop (8 - m)).map B)[j]? := by rw [List.map_drop, List.getElem?_drop]
  rw [e, hd, List.getElem?_map, List.getElem?_eq_getElem hj]
  rfl

theorem back8 (x m : Nat) (hm : m ≤ 8) (w1 : World) (cap : Nat) :
    (convert 88 9 (.slice (some ⟨w1.heap.size, 8 - m, none⟩) m cap)).run Try.prog (w1.alloc (.cells (cells8 x) 98)) = .ok (.string ⟨(ofB x m).toArray⟩) (w1.alloc (.cells (cells8 x) 98)) := by
  have h := run_convert_bytes_back (P := Try.prog) (w1.alloc (.cells (cells8 x) 98)) 88 9 5 ⟨w1.heap.size, 8 - m, none⟩ cap (ofB x m) Try.underlying88 Try.underlying5 Try.underlying9 (fun j hj => by
    have ha : (⟨w1.heap.size, 8 - m, none⟩ : Addr).add j = ⟨w1.heap.size, 8 - m + j, none⟩ := by unfold Addr.add; split <;> simp_all
    rw [ha, ← cells8_at x m j hm hj]
    simp only [World.cell?]
    rw [heap_alloc_new]
    rfl)
  rw [ofB_length] at h
  exact h

theorem back0 (W : World) (a : Addr) (cap : Nat) : (convert 88 9 (.slice (some a) 0 cap)).run Try.prog W = .ok (.string ⟨#[]⟩) W :=
  run_convert_bytes_back (P := Try.prog) W 88 9 5 a cap [] Try.underlying88 Try.underlying5 Try.underlying9 (fun j hj => absurd hj (Nat.not_lt_zero j))

def clip8 (n : Int) : Nat := if n ≤ 0 then 0 else if 8 ≤ n then 8 else n.toNat

set_option maxHeartbeats 400000 in
theorem of_lo (x : Nat) (n : Int) (h : n < 0) (w : World) (hx : x < 18446744073709551616) :
    Calls Try.prog 37 #[.int .u64 (x : Int), .int .i64 n] w fun e w' => e = .returned (.string ⟨(ofB x 0).toArray⟩) ∧ Below w.heap.size w w' := by
  have hbk := back0
  have HC := hide (spread_any x w hx)
  unfold B at HC
  go_enter Try.func37, Try.ntmps37
  go_wp2_with fail
  refine (unhide HC).mono ?_
  rintro e w1 ⟨rfl, hb⟩
  go_wp2
  go_ret
  exact ⟨rfl, hb.alloc hb.size _⟩

set_option maxHeartbeats 400000 in
theorem of_hi (x : Nat) (n : Int) (h : 8 < n) (w : World) (hx : x < 18446744073709551616) :
    Calls Try.prog 37 #[.int .u64 (x : Int), .int .i64 n] w fun e w' => e = .returned (.string ⟨(ofB x 8).toArray⟩) ∧ Below w.heap.size w w' := by
  have hbk := back8 x 8 (by omega)
  unfold cells8 at hbk
  simp only [Nat.reduceSub] at hbk
  have HC := hide (spread_any x w hx)
  unfold B at HC
  go_enter Try.func37, Try.ntmps37
  go_wp2_with fail
  refine (unhide HC).mono ?_
  rintro e w1 ⟨rfl, hb⟩
  go_wp2
  go_ret
  exact ⟨rfl, hb.alloc hb.size _⟩

set_option maxHeartbeats 400000 in
theorem of_0 (x : Nat) (w : World) (hx : x < 18446744073709551616) :
    Calls Try.prog 37 #[.int .u64 (x : Int), .int .i64 0] w fun e w' => e = .returned (.string ⟨(ofB x 0).toArray⟩) ∧ Below w.heap.size w w' := by
  have hbk := back0
  have HC := hide (spread_any x w hx)
  unfold B at HC
  go_enter Try.func37, Try.ntmps37
  go_wp2_with fail
  refine (unhide HC).mono ?_
  rintro e w1 ⟨rfl, hb⟩
  go_wp2
  go_ret
  exact ⟨rfl, hb.alloc hb.size _⟩

set_option maxHeartbeats 400000 in
theorem of_1 (x : Nat) (w : World) (hx : x < 18446744073709551616) :
    Calls Try.prog 37 #[.int .u64 (x : Int), .int .i64 1] w fun e w' => e = .returned (.string ⟨(ofB x 1).toArray⟩) ∧ Below w.heap.size w w' := by
  have hbk := back8 x 1 (by omega)
  unfold cells8 at hbk
  simp only [Nat.reduceSub] at hbk
  have HC := hide (spread_any x w hx)
  unfold B at HC
  go_enter Try.func37, Try.ntmps37
  go_wp2_with fail
  refine (unhide HC).mono ?_
  rintro e w1 ⟨rfl, hb⟩
  go_wp2
  go_ret
  exact ⟨rfl, hb.alloc hb.size _⟩

set_option maxHeartbeats 400000 in
theorem of_2 (x : Nat) (w : World) (hx : x < 18446744073709551616) :
    Calls Try.prog 37 #[.int .u64 (x : Int), .int .i64 2] w fun e w' => e = .returned (.string ⟨(ofB x 2).toArray⟩) ∧ Below w.heap.size w w' := by
  have hbk := back8 x 2 (by omega)
  unfold cells8 at hbk
  simp only [Nat.reduceSub] at hbk
  have HC := hide (spread_any x w hx)
  unfold B at HC
  go_enter Try.func37, Try.ntmps37
  go_wp2_with fail
  refine (unhide HC).mono ?_
  rintro e w1 ⟨rfl, hb⟩
  go_wp2
  go_ret
  exact ⟨rfl, hb.alloc hb.size _⟩

set_option maxHeartbeats 400000 in
theorem of_3 (x : Nat) (w : World) (hx : x < 18446744073709551616) :
    Calls Try.prog 37 #[.int .u64 (x : Int), .int .i64 3] w fun e w' => e = .returned (.string ⟨(ofB x 3).toArray⟩) ∧ Below w.heap.size w w' := by
  have hbk := back8 x 3 (by omega)
  unfold cells8 at hbk
  simp only [Nat.reduceSub] at hbk
  have HC := hide (spread_any x w hx)
  unfold B at HC
  go_enter Try.func37, Try.ntmps37
  go_wp2_with fail
  refine (unhide HC).mono ?_
  rintro e w1 ⟨rfl, hb⟩
  go_wp2
  go_ret
  exact ⟨rfl, hb.alloc hb.size _⟩

set_option maxHeartbeats 400000 in
theorem of_4 (x : Nat) (w : World) (hx : x < 18446744073709551616) :
    Calls Try.prog 37 #[.int .u64 (x : Int), .int .i64 4] w fun e w' => e = .returned (.string ⟨(ofB x 4).toArray⟩) ∧ Below w.heap.size w w' := by
  have hbk := back8 x 4 (by omega)
  unfold cells8 at hbk
  simp only [Nat.reduceSub] at hbk
  have HC := hide (spread_any x w hx)
  unfold B at HC
  go_enter Try.func37, Try.ntmps37
  go_wp2_with fail
  refine (unhide HC).mono ?_
  rintro e w1 ⟨rfl, hb⟩
  go_wp2
  go_ret
  exact ⟨rfl, hb.alloc hb.size _⟩

set_option maxHeartbeats 400000 in
theorem of_5 (x : Nat) (w : World) (hx : x < 18446744073709551616) :
    Calls Try.prog 37 #[.int .u64 (x : Int), .int .i64 5] w fun e w' => e = .returned (.string ⟨(ofB x 5).toArray⟩) ∧ Below w.heap.size w w' := by
  have hbk := back8 x 5 (by omega)
  unfold cells8 at hbk
  simp only [Nat.reduceSub] at hbk
  have HC := hide (spread_any x w hx)
  unfold B at HC
  go_enter Try.func37, Try.ntmps37
  go_wp2_with fail
  refine (unhide HC).mono ?_
  rintro e w1 ⟨rfl, hb⟩
  go_wp2
  go_ret
  exact ⟨rfl, hb.alloc hb.size _⟩

set_option maxHeartbeats 400000 in
theorem of_6 (x : Nat) (w : World) (hx : x < 18446744073709551616) :
    Calls Try.prog 37 #[.int .u64 (x : Int), .int .i64 6] w fun e w' => e = .returned (.string ⟨(ofB x 6).toArray⟩) ∧ Below w.heap.size w w' := by
  have hbk := back8 x 6 (by omega)
  unfold cells8 at hbk
  simp only [Nat.reduceSub] at hbk
  have HC := hide (spread_any x w hx)
  unfold B at HC
  go_enter Try.func37, Try.ntmps37
  go_wp2_with fail
  refine (unhide HC).mono ?_
  rintro e w1 ⟨rfl, hb⟩
  go_wp2
  go_ret
  exact ⟨rfl, hb.alloc hb.size _⟩

set_option maxHeartbeats 400000 in
theorem of_7 (x : Nat) (w : World) (hx : x < 18446744073709551616) :
    Calls Try.prog 37 #[.int .u64 (x : Int), .int .i64 7] w fun e w' => e = .returned (.string ⟨(ofB x 7).toArray⟩) ∧ Below w.heap.size w w' := by
  have hbk := back8 x 7 (by omega)
  unfold cells8 at hbk
  simp only [Nat.reduceSub] at hbk
  have HC := hide (spread_any x w hx)
  unfold B at HC
  go_enter Try.func37, Try.ntmps37
  go_wp2_with fail
  refine (unhide HC).mono ?_
  rintro e w1 ⟨rfl, hb⟩
  go_wp2
  go_ret
  exact ⟨rfl, hb.alloc hb.size _⟩

set_option maxHeartbeats 400000 in
theorem of_8 (x : Nat) (w : World) (hx : x < 18446744073709551616) :
    Calls Try.prog 37 #[.int .u64 (x : Int), .int .i64 8] w fun e w' => e = .returned (.string ⟨(ofB x 8).toArray⟩) ∧ Below w.heap.size w w' := by
  have hbk := back8 x 8 (by omega)
  unfold cells8 at hbk
  simp only [Nat.reduceSub] at hbk
  have HC := hide (spread_any x w hx)
  unfold B at HC
  go_enter Try.func37, Try.ntmps37
  go_wp2_with fail
  refine (unhide HC).mono ?_
  rintro e w1 ⟨rfl, hb⟩
  go_wp2
  go_ret
  exact ⟨rfl, hb.alloc hb.size _⟩

theorem of_any (x : Nat) (n : Int) (w : World) (hx : x < 18446744073709551616) :
    Calls Try.prog 37 #[.int .u64 (x : Int), .int .i64 n] w fun e w' => e = .returned (.string ⟨(ofB x (clip8 n)).toArray⟩) ∧ Below w.heap.size w w' := by
  by_cases hl : n < 0
  · rw [show clip8 n = 0 from if_pos (by omega)]
    exact of_lo x n hl w hx
  · by_cases hh : 8 < n
    · rw [show clip8 n = 8 from by unfold clip8; rw [if_neg (by omega), if_pos (by omega)]]
      exact of_hi x n hh w hx
    · rcases (by omega : n = 0 ∨ n = 1 ∨ n = 2 ∨ n = 3 ∨ n = 4 ∨ n = 5 ∨ n = 6 ∨ n = 7 ∨ n = 8) with h | h | h | h | h | h | h | h | h <;> subst h
      · exact of_0 x w hx
      · exact of_1 x w hx
      · exact of_2 x w hx
      · exact of_3 x w hx
      · exact of_4 x w hx
      · exact of_5 x w hx
      · exact of_6 x w hx
      · exact of_7 x w hx
      · exact of_8 x w hx

end Go.Proofs.Ytekljiakofmhnaa
