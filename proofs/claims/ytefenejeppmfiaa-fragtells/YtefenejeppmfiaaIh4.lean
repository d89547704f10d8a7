/- The contracts of package ip4's hasKept and read, over the loaded program; no memory that was there has turned. Conditions: texts of bounded length. -/
import Derived.Test.YtefenejeppmfiaaIh3
namespace Go.Proofs.Ytefenejeppmfiaa
open Go.RowKit

theorem and_two_pow' (x i : Nat) : x &&& 2 ^ i = (x / 2 ^ i % 2) * 2 ^ i := by
  apply Nat.eq_of_testBit_eq
  intro j
  rw [Nat.testBit_and, Nat.testBit_two_pow]
  by_cases h : x / 2 ^ i % 2 = 1
  · rw [h, Nat.one_mul, Nat.testBit_two_pow]
    by_cases e : i = j
    · subst e; rw [Nat.testBit_eq_decide_div_mod_eq, h]; rfl
    · rw [decide_eq_false e, Bool.and_false]
  · have h0 : x / 2 ^ i % 2 = 0 := by omega
    rw [h0, Nat.zero_mul, Nat.zero_testBit]
    by_cases e : i = j
    · subst e; rw [Nat.testBit_eq_decide_div_mod_eq, h0]; rfl
    · rw [decide_eq_false e, Bool.and_false]
theorem bit_hold (x : Nat) : (((x &&& 16384 : Nat) : Int) != 0) = decide (16384 ≤ x % 32768) := by
  have e := and_two_pow' x 14
  simp only [Nat.reducePow] at e
  rw [e, Bool.eq_iff_iff]
  simp
  omega
theorem bit_more (x : Nat) : (((x &&& 8192 : Nat) : Int) != 0) = decide (8192 ≤ x % 16384) := by
  have e := and_two_pow' x 13
  simp only [Nat.reducePow] at e
  rw [e, Bool.eq_iff_iff]
  simp
  omega
theorem bit_kept (x : Nat) (h : x < 65536) : (((x &&& 32768 : Nat) : Int) != 0) = decide (32768 ≤ x) := by
  have e := and_two_pow' x 15
  simp only [Nat.reducePow] at e
  rw [e, Bool.eq_iff_iff]
  simp
  omega
theorem and_8191 (x : Nat) : x &&& 8191 = x % 8192 := Nat.and_two_pow_sub_one_eq_mod x 13

set_option maxHeartbeats 400000 in
theorem haskept_any (s : ByteArray) (w : World) (hs : 20 ≤ s.size) (hm : s.size ≤ 1073741824) :
    Calls Try.prog 33 #[.string s] w fun e w' => e = .returned (.bool (decide (32768 ≤ twoAt s.data.toList 6))) ∧ Below w.heap.size w w' := by
  have H := hide (fun w => two_ok s 6 w (by unfold maxLen; omega) (by omega))
  rw [show num (fld s 6 2) = twoAt s.data.toList 6 from rfl] at H
  have hl := twoAt_lt s.data.toList 6
  generalize twoAt s.data.toList 6 = x at *
  have e1 : bits .and .u16 (x : Int) 32768 = ((x &&& 32768 : Nat) : Int) := u16_and_nat x 32768 hl (by omega)
  have e2 := bit_kept x hl
  generalize decide (32768 ≤ x) = r at *
  generalize x &&& 32768 = y at *
  go_enter Try.func33, Try.ntmps33
  go_wp2_with fail
  refine (unhide H _).mono ?_
  rintro e w1 ⟨rfl, b1⟩
  go_wp2_with fail
  go_ret
  exact ⟨rfl, b1⟩

/-- the head of n bytes that a text begins with, as it is in memory -/
def readR (s : ByteArray) (n : Nat) : Rh := ⟨byteAt s.data.toList 1, twoAt s.data.toList 4, decide (16384 ≤ twoAt s.data.toList 6 % 32768), decide (8192 ≤ twoAt s.data.toList 6 % 16384), ((twoAt s.data.toList 6 % 8192 : Nat) : Int) * 8, byteAt s.data.toList 8, byteAt s.data.toList 9, fourAt s.data.toList 12, fourAt s.data.toList 16, s.extract 20 n⟩
theorem readR_hd (s : ByteArray) (n : Nat) : (readR s n).hd = readHd s.data.toList n := by
  unfold readR Rh.hd readHd
  rw [Lib.extract_eq, show (((twoAt s.data.toList 6 % 8192 : Nat) : Int) * 8).toNat = 8 * (twoAt s.data.toList 6 % 8192) by omega]
theorem fourAt_lt (l : List UInt8) (k : Nat) : fourAt l k < 4294967296 := by
  unfold fourAt
  have h := num_lt ((l.drop k).take 4)
  have hl : ((l.drop k).take 4).length ≤ 4 := by rw [List.length_take]; omega
  exact Nat.lt_of_lt_of_le h (Nat.le_trans (Nat.pow_le_pow_right (by omega) hl) (by decide))
theorem byte_fld {s : ByteArray} {k : Nat} (h : k < s.size) : num (fld s k 1) = byteAt s.data.toList k := by
  have hl := fld_length (s := s) (k := k) (n := 1) (by omega)
  obtain ⟨x, hx⟩ := list1 _ hl
  rw [hx]
  have hk : k < s.data.toList.length := by rw [← Lib.size_eq]; exact h
  have e : (s.data.toList.drop k).take 1 = [x] := hx
  rw [List.drop_eq_getElem_cons hk] at e
  simp only [List.take_succ_cons, List.take_zero, List.cons.injEq, and_true] at e
  unfold byteAt
  rw [List.getD_eq_getElem?_getD, List.getElem?_eq_getElem hk, e, num_cons, num_nil]
  simp

theorem below_set10 {w0 w : World} {b : Nat} (h : Below w0.heap.size w0 w) (hb : w0.heap.size ≤ b) (a0 a1 a2 a3 a4 a5 a6 a7 a8 a9 : Value) :
    Below w0.heap.size w0 ((((((((((w.setCell ⟨b, 0, none⟩ a0).setCell ⟨b, 1, none⟩ a1).setCell ⟨b, 2, none⟩ a2).setCell ⟨b, 3, none⟩ a3).setCell ⟨b, 4, none⟩ a4).setCell ⟨b, 5, none⟩ a5).setCell ⟨b, 6, none⟩ a6).setCell ⟨b, 7, none⟩ a7).setCell ⟨b, 8, none⟩ a8).setCell ⟨b, 9, none⟩ a9) :=
  (((((below_set5 h hb a0 a1 a2 a3 a4).setCell (p := ⟨b, 5, none⟩) hb _).setCell (p := ⟨b, 6, none⟩) hb _).setCell (p := ⟨b, 7, none⟩) hb _).setCell (p := ⟨b, 8, none⟩) hb _).setCell (p := ⟨b, 9, none⟩) hb _
abbrev z10 : List Value := [.int .u8 0, .int .u16 0, .bool false, .bool false, .int .i64 0, .int .u8 0, .int .u8 0, .int .u32 0, .int .u32 0, .string ⟨#[]⟩]

set_option maxRecDepth 20000 in
set_option maxHeartbeats 2000000 in
theorem read_walk (s : ByteArray) (n : Nat) (w : World) (v0 v1 x v5 v6 v7 v8 y1 y2 y3 : Nat) (b2 b3 : Bool) (t : ByteArray) (l3 : y3 < 8192) (hn : 20 ≤ n) (hn2 : n ≤ 60)
    (H0 : Hid (∀ w, Calls Try.prog 75 #[.string s, .int .i64 1] w fun e w' => e = .returned (.tuple #[.int .u8 (v0 : Int), .int .i64 0]) ∧ Below w.heap.size w w'))
    (H1 : Hid (∀ w, Calls Try.prog 74 #[.string s, .int .i64 4] w fun e w' => e = .returned (.tuple #[.int .u16 (v1 : Int), .int .i64 0]) ∧ Below w.heap.size w w'))
    (H2 : Hid (∀ w, Calls Try.prog 74 #[.string s, .int .i64 6] w fun e w' => e = .returned (.tuple #[.int .u16 (x : Int), .int .i64 0]) ∧ Below w.heap.size w w'))
    (H5 : Hid (∀ w, Calls Try.prog 75 #[.string s, .int .i64 8] w fun e w' => e = .returned (.tuple #[.int .u8 (v5 : Int), .int .i64 0]) ∧ Below w.heap.size w w'))
    (H6 : Hid (∀ w, Calls Try.prog 75 #[.string s, .int .i64 9] w fun e w' => e = .returned (.tuple #[.int .u8 (v6 : Int), .int .i64 0]) ∧ Below w.heap.size w w'))
    (H7 : Hid (∀ w, Calls Try.prog 76 #[.string s, .int .i64 12] w fun e w' => e = .returned (.tuple #[.int .u32 (v7 : Int), .int .i64 0]) ∧ Below w.heap.size w w'))
    (H8 : Hid (∀ w, Calls Try.prog 76 #[.string s, .int .i64 16] w fun e w' => e = .returned (.tuple #[.int .u32 (v8 : Int), .int .i64 0]) ∧ Below w.heap.size w w'))
    (H9 : Hid (∀ w, Calls Try.prog 37 #[.string s, .int .i64 20, .int .i64 ((n : Int) - 20)] w fun e w' => e = .returned (.tuple #[.string t, .int .i64 0]) ∧ Below w.heap.size w w'))
    (e1 : bits .and .u16 (x : Int) 16384 = (y1 : Int)) (e2 : bits .and .u16 (x : Int) 8192 = (y2 : Int)) (e3 : bits .and .u16 (x : Int) 8191 = (y3 : Int)) (f1 : ((y1 : Int) != 0) = b2) (f2 : ((y2 : Int) != 0) = b3) :
    Calls Try.prog 35 #[.string s, .int .i64 (n : Int)] w fun e w' => e = .returned (.agg #[.int .u8 (v0 : Int), .int .u16 (v1 : Int), .bool b2, .bool b3, .int .i64 ((y3 : Int) * 8), .int .u8 (v5 : Int), .int .u8 (v6 : Int), .int .u32 (v7 : Int), .int .u32 (v8 : Int), .string t]) ∧ Below w.heap.size w w' := by
  have K := hide (((Tab.zero w).alloc rfl z10 25).alloc (by simp) z10 25)
  go_enter Try.func35, Try.ntmps35
  go_wp2_with fail
  refine (unhide H0 _).mono ?_
  rintro e w1 ⟨rfl, b1⟩
  have k := (unhide K).on b1
  have c0 := k.cells 1 0 _ rfl
  have g0 := k.free 1 0 _ rfl
  have K2 := hide ((k).set 1 0 _ (.int .u8 (v0 : Int)) rfl)
  clear K b1 k H0
  have K := K2
  clear K2
  go_wp2_with fail
  clear c0 g0
  generalize (w1.setCell _ _) = x1 at *
  refine (unhide H1 _).mono ?_
  rintro e w2 ⟨rfl, b1⟩
  have k := (unhide K).on b1
  have c1 := k.cells 1 1 _ rfl
  have g1 := k.free 1 1 _ rfl
  have K2 := hide ((k).set 1 1 _ (.int .u16 (v1 : Int)) rfl)
  clear K b1 k H1
  have K := K2
  clear K2
  go_wp2_with fail
  clear c1 g1
  generalize (w2.setCell _ _) = x2 at *
  refine (unhide H2 _).mono ?_
  rintro e w3 ⟨rfl, b1⟩
  have k := (unhide K).on b1
  have c2 := k.cells 1 2 _ rfl
  have g2 := k.free 1 2 _ rfl
  have c3 := k.cells 1 3 _ rfl
  have g3 := k.free 1 3 _ rfl
  have c4 := k.cells 1 4 _ rfl
  have g4 := k.free 1 4 _ rfl
  have K2 := hide ((((k).set 1 2 _ (.bool b2) rfl).set 1 3 _ (.bool b3) rfl).set 1 4 _ (.int .i64 ((y3 : Int) * 8)) rfl)
  clear K b1 k H2
  have K := K2
  clear K2
  go_wp2_with fail
  clear c2 g2 c3 g3 c4 g4
  generalize (((w3.setCell _ _).setCell _ _).setCell _ _) = x3 at *
  refine (unhide H5 _).mono ?_
  rintro e w4 ⟨rfl, b1⟩
  have k := (unhide K).on b1
  have c5 := k.cells 1 5 _ rfl
  have g5 := k.free 1 5 _ rfl
  have K2 := hide ((k).set 1 5 _ (.int .u8 (v5 : Int)) rfl)
  clear K b1 k H5
  have K := K2
  clear K2
  go_wp2_with fail
  clear c5 g5
  generalize (w4.setCell _ _) = x4 at *
  refine (unhide H6 _).mono ?_
  rintro e w5 ⟨rfl, b1⟩
  have k := (unhide K).on b1
  have c6 := k.cells 1 6 _ rfl
  have g6 := k.free 1 6 _ rfl
  have K2 := hide ((k).set 1 6 _ (.int .u8 (v6 : Int)) rfl)
  clear K b1 k H6
  have K := K2
  clear K2
  go_wp2_with fail
  clear c6 g6
  generalize (w5.setCell _ _) = x5 at *
  refine (unhide H7 _).mono ?_
  rintro e w6 ⟨rfl, b1⟩
  have k := (unhide K).on b1
  have c7 := k.cells 1 7 _ rfl
  have g7 := k.free 1 7 _ rfl
  have K2 := hide ((k).set 1 7 _ (.int .u32 (v7 : Int)) rfl)
  clear K b1 k H7
  have K := K2
  clear K2
  go_wp2_with fail
  clear c7 g7
  generalize (w6.setCell _ _) = x6 at *
  refine (unhide H8 _).mono ?_
  rintro e w7 ⟨rfl, b1⟩
  have k := (unhide K).on b1
  have c8 := k.cells 1 8 _ rfl
  have g8 := k.free 1 8 _ rfl
  have K2 := hide ((k).set 1 8 _ (.int .u32 (v8 : Int)) rfl)
  clear K b1 k H8
  have K := K2
  clear K2
  go_wp2_with fail
  clear c8 g8
  generalize (w7.setCell _ _) = x7 at *
  refine (unhide H9 _).mono ?_
  rintro e w8 ⟨rfl, b1⟩
  have k := (unhide K).on b1
  have c9 := k.cells 1 9 _ rfl
  have g9 := k.free 1 9 _ rfl
  have k2 := (k).set 1 9 _ (.string t) rfl
  have B := hide k2.bel
  have c0 := k.cells 1 0 _ rfl
  have c1 := k.cells 1 1 _ rfl
  have c2 := k.cells 1 2 _ rfl
  have c3 := k.cells 1 3 _ rfl
  have c4 := k.cells 1 4 _ rfl
  have c5 := k.cells 1 5 _ rfl
  have c6 := k.cells 1 6 _ rfl
  have c7 := k.cells 1 7 _ rfl
  have c8 := k.cells 1 8 _ rfl
  have r0 : w8.cell? ⟨w.heap.size, 0, none⟩ = some (.int .u8 0) := k.cells 0 0 _ rfl
  have f0 : w8.frozen? ⟨w.heap.size, 0, none⟩ = false := k.free 0 0 _ rfl
  have r1 : w8.cell? ⟨w.heap.size, 1, none⟩ = some (.int .u16 0) := k.cells 0 1 _ rfl
  have f1 : w8.frozen? ⟨w.heap.size, 1, none⟩ = false := k.free 0 1 _ rfl
  have r2 : w8.cell? ⟨w.heap.size, 2, none⟩ = some (.bool false) := k.cells 0 2 _ rfl
  have f2 : w8.frozen? ⟨w.heap.size, 2, none⟩ = false := k.free 0 2 _ rfl
  have r3 : w8.cell? ⟨w.heap.size, 3, none⟩ = some (.bool false) := k.cells 0 3 _ rfl
  have f3 : w8.frozen? ⟨w.heap.size, 3, none⟩ = false := k.free 0 3 _ rfl
  have r4 : w8.cell? ⟨w.heap.size, 4, none⟩ = some (.int .i64 0) := k.cells 0 4 _ rfl
  have f4 : w8.frozen? ⟨w.heap.size, 4, none⟩ = false := k.free 0 4 _ rfl
  have r5 : w8.cell? ⟨w.heap.size, 5, none⟩ = some (.int .u8 0) := k.cells 0 5 _ rfl
  have f5 : w8.frozen? ⟨w.heap.size, 5, none⟩ = false := k.free 0 5 _ rfl
  have r6 : w8.cell? ⟨w.heap.size, 6, none⟩ = some (.int .u8 0) := k.cells 0 6 _ rfl
  have f6 : w8.frozen? ⟨w.heap.size, 6, none⟩ = false := k.free 0 6 _ rfl
  have r7 : w8.cell? ⟨w.heap.size, 7, none⟩ = some (.int .u32 0) := k.cells 0 7 _ rfl
  have f7 : w8.frozen? ⟨w.heap.size, 7, none⟩ = false := k.free 0 7 _ rfl
  have r8 : w8.cell? ⟨w.heap.size, 8, none⟩ = some (.int .u32 0) := k.cells 0 8 _ rfl
  have f8 : w8.frozen? ⟨w.heap.size, 8, none⟩ = false := k.free 0 8 _ rfl
  have r9 : w8.cell? ⟨w.heap.size, 9, none⟩ = some (.string ⟨#[]⟩) := k.cells 0 9 _ rfl
  have f9 : w8.frozen? ⟨w.heap.size, 9, none⟩ = false := k.free 0 9 _ rfl
  clear K b1 k k2 H9
  go_wp2_with fail
  refine bodyPost_ret (v := .agg #[.int .u8 (v0 : Int), .int .u16 (v1 : Int), .bool b2, .bool b3, .int .i64 ((y3 : Int) * 8), .int .u8 (v5 : Int), .int .u8 (v6 : Int), .int .u32 (v7 : Int), .int .u32 (v8 : Int), .string t]) (by simp [results, Try.results35, go_sem, r0, r1, r2, r3, r4, r5, r6, r7, r8, r9]) rfl ⟨rfl, ?_⟩
  exact below_set10 (unhide B) (Nat.le_refl _) _ _ _ _ _ _ _ _ _ _

theorem read_any (s : ByteArray) (n : Nat) (w : World) (h1 : 20 ≤ n) (h2 : n ≤ 60) (h3 : n ≤ s.size) (hm : s.size ≤ 1073741824) :
    Calls Try.prog 35 #[.string s, .int .i64 (n : Int)] w fun e w' => e = .returned (hdV (readR s n)) ∧ Below w.heap.size w w' := by
  have hM : s.size ≤ maxLen := by unfold maxLen; omega
  have hl := twoAt_lt s.data.toList 6
  refine read_walk s n w (byteAt s.data.toList 1) (twoAt s.data.toList 4) (twoAt s.data.toList 6) (byteAt s.data.toList 8) (byteAt s.data.toList 9) (fourAt s.data.toList 12) (fourAt s.data.toList 16) (twoAt s.data.toList 6 &&& 16384) (twoAt s.data.toList 6 &&& 8192) (twoAt s.data.toList 6 % 8192) _ _ (s.extract 20 n) (Nat.mod_lt _ (by omega)) h1 h2 ?_ ?_ ?_ ?_ ?_ ?_ ?_ ?_ (u16_and_nat _ 16384 hl (by omega)) (u16_and_nat _ 8192 hl (by omega)) ?_ (bit_hold _) (bit_more _)
  · rw [← byte_fld (by omega)]; exact fun w => byte_ok s 1 w hM (by omega)
  · exact fun w => two_ok s 4 w hM (by omega)
  · exact fun w => two_ok s 6 w hM (by omega)
  · rw [← byte_fld (by omega)]; exact fun w => byte_ok s 8 w hM (by omega)
  · rw [← byte_fld (by omega)]; exact fun w => byte_ok s 9 w hM (by omega)
  · exact fun w => four_ok s 12 w hM (by omega)
  · exact fun w => four_ok s 16 w hM (by omega)
  · intro w
    have q := wtext_ok s 20 ((n : Int) - 20) w (by omega) (by omega) (by omega) (by omega)
    rw [show (20 + ((n : Int) - 20)).toNat = n by omega] at q
    exact q
  · rw [← and_8191]; exact u16_and_nat _ 8191 hl (by omega)

end Go.Proofs.Ytefenejeppmfiaa
