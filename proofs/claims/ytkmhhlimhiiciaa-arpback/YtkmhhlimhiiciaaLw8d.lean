/- The walk of the law ArpBack, over the loaded program: true; no memory that was there has turned. No conditions. -/
import Derived.Test.YtkmhhlimhiiciaaBk8
namespace Go.Proofs.Ytkmhhlimhiiciaa
open Go.RowKit

theorem bel_two (w : World) (o o' : Obj) : Below w.heap.size w ((w.alloc o).alloc o') := tr2 (below_one w o) (below_one _ _)
theorem box_ar2 (w : World) (o f i t j o' f' i' t' j' : Nat) : Tab w 2 (add (add (fun _ _ => none) 0 (arL o f i t j)) 1 (arL o' f' i' t' j')) ((w.alloc (arC o f i t j)).alloc (arC o' f' i' t' j')) := ((Tab.zero w).alloc rfl (arL o f i t j) _).alloc (by simp) (arL o' f' i' t' j') _

set_option maxHeartbeats 1000000 in
theorem back_long (o f i t j o' f' i' t' j' n : Nat) (s : ByteArray) (w : World) (h : (4096 : Int) < (s.size : Int)) :
    Calls Try.prog 5 #[ar o f i t j, ar o' f' i' t' j', .string s, .int .u8 (n : Int)] w fun e w' => e = .returned (.bool true) ∧ Below w.heap.size w w' := by
  have H2 := hide alive_any
  have BEL := hide (bel_two w (arC o f i t j) (arC o' f' i' t' j'))
  have g := decide_eq_true h
  clear h
  go_enter Try.func5, Try.ntmps5
  go_wp2_with fail
  refine (unhide H2 _).mono ?_
  rintro e w2 ⟨rfl, b2⟩
  go_wp2_with fail
  go_ret
  exact ⟨rfl, tr2 (unhide BEL) b2⟩

set_option maxRecDepth 20000 in
set_option maxHeartbeats 4000000 in
theorem back_nn (o f i t j o' f' i' t' j' n : Nat) (s : ByteArray) (w : World) (h2 : (s.size : Int) ≤ 4096) (X Y : ByteArray) (E1 : Int) (hE1 : (E1 == 0) = false) (E2 : Int) (O F I T J : Nat) (E3 : Int) (hE3 : (E3 != 0) = true)
    (H1 : Hid (∀ w, Calls Try.prog 8 #[ar o f i t j] w fun x w' => x = .returned (.tuple #[.string X, .int .i64 E1]) ∧ Below w.heap.size w w'))
    (H2 : Hid (∀ w, Calls Try.prog 8 #[ar o' f' i' t' j'] w fun x w' => x = .returned (.tuple #[.string Y, .int .i64 E2]) ∧ Below w.heap.size w w'))
    (H3 : Hid (∀ w, Calls Try.prog 10 #[.string s] w fun x w' => x = .returned (.tuple #[ar O F I T J, .int .i64 E3]) ∧ Below w.heap.size w w')) :
    Calls Try.prog 5 #[ar o f i t j, ar o' f' i' t' j', .string s, .int .u8 (n : Int)] w fun e w' => e = .returned (.bool true) ∧ Below w.heap.size w w' := by
  have H9 := hide alive_any
  have gs := decide_eq_false (show ¬ (4096 : Int) < (s.size : Int) by omega)
  have K0 := hide (box_ar2 w o f i t j o' f' i' t' j')
  clear h2
  go_enter Try.func5, Try.ntmps5
  go_wp2_with fail
  refine (unhide H1 _).mono ?_
  rintro e w1 ⟨rfl, b1⟩
  have K1 := hide ((unhide K0).on b1)
  clear K0 b1 H1
  obtain ⟨d0, d1, d2, d3, d4⟩ := (unhide K1).five 1 rfl rfl rfl rfl rfl
  go_wp2_with fail
  refine (unhide H2 _).mono ?_
  rintro e w2 ⟨rfl, b2⟩
  have K2 := hide ((unhide K1).on b2)
  clear K1 b2 H2 d0 d1 d2 d3 d4
  go_wp2_with fail
  refine (unhide H3 _).mono ?_
  rintro e w6 ⟨rfl, b6⟩
  have B6 := hide (tr2 (unhide K2).bel b6)
  clear K2 b6 H3
  have B7 := hide (tr2 (unhide B6) (below_one w6 (arC O F I T J)))
  go_wp2_with fail
  refine (unhide H9 _).mono ?_
  rintro e w7 ⟨rfl, b7⟩
  go_wp2_with fail
  go_ret
  exact ⟨rfl, tr2 (unhide B7) b7⟩

set_option maxRecDepth 20000 in
set_option maxHeartbeats 4000000 in
theorem back_ny (o f i t j o' f' i' t' j' n : Nat) (s : ByteArray) (w : World) (h2 : (s.size : Int) ≤ 4096) (X Y : ByteArray) (E1 : Int) (hE1 : (E1 == 0) = false) (E2 : Int) (O F I T J : Nat) (T1 : ByteArray)
    (H1 : Hid (∀ w, Calls Try.prog 8 #[ar o f i t j] w fun x w' => x = .returned (.tuple #[.string X, .int .i64 E1]) ∧ Below w.heap.size w w'))
    (H2 : Hid (∀ w, Calls Try.prog 8 #[ar o' f' i' t' j'] w fun x w' => x = .returned (.tuple #[.string Y, .int .i64 E2]) ∧ Below w.heap.size w w'))
    (H3 : Hid (∀ w, Calls Try.prog 10 #[.string s] w fun x w' => x = .returned (.tuple #[ar O F I T J, .int .i64 0]) ∧ Below w.heap.size w w'))
    (hT : T1.size = 28)
    (H7 : Hid (∀ w, Calls Try.prog 8 #[ar O F I T J] w fun x w' => x = .returned (.tuple #[.string T1, .int .i64 0]) ∧ Below w.heap.size w w'))
    (H8 : Hid (∀ w, Calls Try.prog 17 #[.string s, .int .i64 28] w fun x w' => x = .returned (.string T1) ∧ w' = w)) :
    Calls Try.prog 5 #[ar o f i t j, ar o' f' i' t' j', .string s, .int .u8 (n : Int)] w fun e w' => e = .returned (.bool true) ∧ Below w.heap.size w w' := by
  have H9 := hide alive_any
  have gs := decide_eq_false (show ¬ (4096 : Int) < (s.size : Int) by omega)
  have K0 := hide (box_ar2 w o f i t j o' f' i' t' j')
  have tt := toList_refl T1
  clear h2
  go_enter Try.func5, Try.ntmps5
  go_wp2_with fail
  refine (unhide H1 _).mono ?_
  rintro e w1 ⟨rfl, b1⟩
  have K1 := hide ((unhide K0).on b1)
  clear K0 b1 H1
  obtain ⟨d0, d1, d2, d3, d4⟩ := (unhide K1).five 1 rfl rfl rfl rfl rfl
  go_wp2_with fail
  refine (unhide H2 _).mono ?_
  rintro e w2 ⟨rfl, b2⟩
  have K2 := hide ((unhide K1).on b2)
  clear K1 b2 H2 d0 d1 d2 d3 d4
  go_wp2_with fail
  refine (unhide H3 _).mono ?_
  rintro e w6 ⟨rfl, b6⟩
  have B6 := hide (tr2 (unhide K2).bel b6)
  clear K2 b6 H3
  have L6 := hide (box_ar w6 O F I T J)
  go_wp2_with fail
  refine (unhide H7 _).mono ?_
  rintro e w7 ⟨rfl, b7⟩
  have B7 := hide (tr2 (unhide B6) ((unhide L6).on b7).bel)
  clear B6 L6 b7 H7
  go_wp2_with fail
  refine (unhide H8 _).mono ?_
  rintro e w8 ⟨rfl, rfl⟩
  clear H8
  go_wp2_with fail
  refine (unhide H9 _).mono ?_
  rintro e w9 ⟨rfl, b9⟩
  go_wp2_with fail
  go_ret
  exact ⟨rfl, tr2 (unhide B7) b9⟩

set_option maxRecDepth 20000 in
set_option maxHeartbeats 4000000 in
theorem back_0n (o f i t j o' f' i' t' j' n : Nat) (s : ByteArray) (w : World) (h2 : (s.size : Int) ≤ 4096) (X Y : ByteArray) (E2 : Int) (hE2 : (E2 == 0) = false) (O F I T J : Nat) (E3 : Int) (hE3 : (E3 != 0) = true)
    (H1 : Hid (∀ w, Calls Try.prog 8 #[ar o f i t j] w fun x w' => x = .returned (.tuple #[.string X, .int .i64 0]) ∧ Below w.heap.size w w'))
    (H2 : Hid (∀ w, Calls Try.prog 8 #[ar o' f' i' t' j'] w fun x w' => x = .returned (.tuple #[.string Y, .int .i64 E2]) ∧ Below w.heap.size w w'))
    (H3 : Hid (∀ w, Calls Try.prog 10 #[.string s] w fun x w' => x = .returned (.tuple #[ar O F I T J, .int .i64 E3]) ∧ Below w.heap.size w w'))
    (hX : X.size = 28) (Z C : ByteArray) (hZ : X ++ s = Z) (n' : Nat) (hn : n < 256) (hn' : n % 28 = n')
    (H4 : Hid (∀ w, Calls Try.prog 10 #[.string Z] w fun x w' => x = .returned (.tuple #[ar o f i t j, .int .i64 0]) ∧ Below w.heap.size w w'))
    (H5 : Hid (∀ w, Calls Try.prog 17 #[.string X, .int .i64 (n' : Int)] w fun x w' => x = .returned (.string C) ∧ w' = w))
    (H6 : Hid (∀ w, Calls Try.prog 10 #[.string C] w fun x w' => x = .returned (.tuple #[ar0, .int .i64 10]) ∧ Below w.heap.size w w')) :
    Calls Try.prog 5 #[ar o f i t j, ar o' f' i' t' j', .string s, .int .u8 (n : Int)] w fun e w' => e = .returned (.bool true) ∧ Below w.heap.size w w' := by
  have H9 := hide alive_any
  have gs := decide_eq_false (show ¬ (4096 : Int) < (s.size : Int) by omega)
  have K0 := hide (box_ar2 w o f i t j o' f' i' t' j')
  have nq := unlike_ar o f i t j
  have wn : IntKind.i64.wrap (n : Int) = (n : Int) := by rw [IntKind.wrap_i64]; omega
  have rn : (n : Int) % 28 = (n' : Int) := by omega
  have nz : ¬ 9223372036854775807 < 28 + s.size := by omega
  have mx : max (28 : Int) 1 = 28 := by decide
  clear h2 hn hn'
  go_enter Try.func5, Try.ntmps5
  go_wp2_with fail
  refine (unhide H1 _).mono ?_
  rintro e w1 ⟨rfl, b1⟩
  have K1 := hide ((unhide K0).on b1)
  clear K0 b1 H1
  obtain ⟨d0, d1, d2, d3, d4⟩ := (unhide K1).five 1 rfl rfl rfl rfl rfl
  go_wp2_with fail
  refine (unhide H2 _).mono ?_
  rintro e w2 ⟨rfl, b2⟩
  have K2 := hide ((unhide K1).on b2)
  clear K1 b2 H2 d0 d1 d2 d3 d4
  go_wp2_with fail
  refine (unhide H4 _).mono ?_
  rintro e w3 ⟨rfl, b3⟩
  have K3 := hide (((unhide K2).on b3).on (below_one _ (arC o f i t j)))
  have L3 := hide (box_ar w3 o f i t j)
  clear K2 b3 H4
  go_wp2_with fail
  refine (unhide H5 _).mono ?_
  rintro e w4 ⟨rfl, rfl⟩
  clear H5
  go_wp2_with fail
  refine (unhide H6 _).mono ?_
  rintro e w5 ⟨rfl, b5⟩
  have K5 := hide (((unhide K3).on b5).on (below_one _ (.cells #[.int .u16 0, .int .u64 0, .int .u32 0, .int .u64 0, .int .u32 0] 27)))
  have L5 := hide (((unhide L3).on b5).on (below_one _ (.cells #[.int .u16 0, .int .u64 0, .int .u32 0, .int .u64 0, .int .u32 0] 27)))
  clear K3 L3 b5 H6
  obtain ⟨c0, c1, c2, c3, c4⟩ := (unhide K5).five0 rfl rfl rfl rfl rfl
  obtain ⟨d0, d1, d2, d3, d4⟩ := (unhide K5).five 1 rfl rfl rfl rfl rfl
  obtain ⟨e0, e1, e2, e3, e4⟩ := (unhide L5).five0 rfl rfl rfl rfl rfl
  have B5 := hide (unhide K5).bel
  clear K5 L5
  go_wp2_with fail
  refine (unhide H3 _).mono ?_
  rintro e w6 ⟨rfl, b6⟩
  have B6 := hide (tr2 (unhide B5) b6)
  clear B5 b6 H3 c0 c1 c2 c3 c4 d0 d1 d2 d3 d4 e0 e1 e2 e3 e4
  have B7 := hide (tr2 (unhide B6) (below_one w6 (arC O F I T J)))
  go_wp2_with fail
  refine (unhide H9 _).mono ?_
  rintro e w7 ⟨rfl, b7⟩
  go_wp2_with fail
  go_ret
  exact ⟨rfl, tr2 (unhide B7) b7⟩

set_option maxRecDepth 20000 in
set_option maxHeartbeats 4000000 in
theorem back_0y (o f i t j o' f' i' t' j' n : Nat) (s : ByteArray) (w : World) (h2 : (s.size : Int) ≤ 4096) (X Y : ByteArray) (E2 : Int) (hE2 : (E2 == 0) = false) (O F I T J : Nat) (T1 : ByteArray)
    (H1 : Hid (∀ w, Calls Try.prog 8 #[ar o f i t j] w fun x w' => x = .returned (.tuple #[.string X, .int .i64 0]) ∧ Below w.heap.size w w'))
    (H2 : Hid (∀ w, Calls Try.prog 8 #[ar o' f' i' t' j'] w fun x w' => x = .returned (.tuple #[.string Y, .int .i64 E2]) ∧ Below w.heap.size w w'))
    (H3 : Hid (∀ w, Calls Try.prog 10 #[.string s] w fun x w' => x = .returned (.tuple #[ar O F I T J, .int .i64 0]) ∧ Below w.heap.size w w'))
    (hX : X.size = 28) (Z C : ByteArray) (hZ : X ++ s = Z) (n' : Nat) (hn : n < 256) (hn' : n % 28 = n')
    (H4 : Hid (∀ w, Calls Try.prog 10 #[.string Z] w fun x w' => x = .returned (.tuple #[ar o f i t j, .int .i64 0]) ∧ Below w.heap.size w w'))
    (H5 : Hid (∀ w, Calls Try.prog 17 #[.string X, .int .i64 (n' : Int)] w fun x w' => x = .returned (.string C) ∧ w' = w))
    (H6 : Hid (∀ w, Calls Try.prog 10 #[.string C] w fun x w' => x = .returned (.tuple #[ar0, .int .i64 10]) ∧ Below w.heap.size w w'))
    (hT : T1.size = 28)
    (H7 : Hid (∀ w, Calls Try.prog 8 #[ar O F I T J] w fun x w' => x = .returned (.tuple #[.string T1, .int .i64 0]) ∧ Below w.heap.size w w'))
    (H8 : Hid (∀ w, Calls Try.prog 17 #[.string s, .int .i64 28] w fun x w' => x = .returned (.string T1) ∧ w' = w)) :
    Calls Try.prog 5 #[ar o f i t j, ar o' f' i' t' j', .string s, .int .u8 (n : Int)] w fun e w' => e = .returned (.bool true) ∧ Below w.heap.size w w' := by
  have H9 := hide alive_any
  have gs := decide_eq_false (show ¬ (4096 : Int) < (s.size : Int) by omega)
  have K0 := hide (box_ar2 w o f i t j o' f' i' t' j')
  have nq := unlike_ar o f i t j
  have wn : IntKind.i64.wrap (n : Int) = (n : Int) := by rw [IntKind.wrap_i64]; omega
  have rn : (n : Int) % 28 = (n' : Int) := by omega
  have nz : ¬ 9223372036854775807 < 28 + s.size := by omega
  have mx : max (28 : Int) 1 = 28 := by decide
  have tt := toList_refl T1
  clear h2 hn hn'
  go_enter Try.func5, Try.ntmps5
  go_wp2_with fail
  refine (unhide H1 _).mono ?_
  rintro e w1 ⟨rfl, b1⟩
  have K1 := hide ((unhide K0).on b1)
  clear K0 b1 H1
  obtain ⟨d0, d1, d2, d3, d4⟩ := (unhide K1).five 1 rfl rfl rfl rfl rfl
  go_wp2_with fail
  refine (unhide H2 _).mono ?_
  rintro e w2 ⟨rfl, b2⟩
  have K2 := hide ((unhide K1).on b2)
  clear K1 b2 H2 d0 d1 d2 d3 d4
  go_wp2_with fail
  refine (unhide H4 _).mono ?_
  rintro e w3 ⟨rfl, b3⟩
  have K3 := hide (((unhide K2).on b3).on (below_one _ (arC o f i t j)))
  have L3 := hide (box_ar w3 o f i t j)
  clear K2 b3 H4
  go_wp2_with fail
  refine (unhide H5 _).mono ?_
  rintro e w4 ⟨rfl, rfl⟩
  clear H5
  go_wp2_with fail
  refine (unhide H6 _).mono ?_
  rintro e w5 ⟨rfl, b5⟩
  have K5 := hide (((unhide K3).on b5).on (below_one _ (.cells #[.int .u16 0, .int .u64 0, .int .u32 0, .int .u64 0, .int .u32 0] 27)))
  have L5 := hide (((unhide L3).on b5).on (below_one _ (.cells #[.int .u16 0, .int .u64 0, .int .u32 0, .int .u64 0, .int .u32 0] 27)))
  clear K3 L3 b5 H6
  obtain ⟨c0, c1, c2, c3, c4⟩ := (unhide K5).five0 rfl rfl rfl rfl rfl
  obtain ⟨d0, d1, d2, d3, d4⟩ := (unhide K5).five 1 rfl rfl rfl rfl rfl
  obtain ⟨e0, e1, e2, e3, e4⟩ := (unhide L5).five0 rfl rfl rfl rfl rfl
  have B5 := hide (unhide K5).bel
  clear K5 L5
  go_wp2_with fail
  refine (unhide H3 _).mono ?_
  rintro e w6 ⟨rfl, b6⟩
  have B6 := hide (tr2 (unhide B5) b6)
  clear B5 b6 H3 c0 c1 c2 c3 c4 d0 d1 d2 d3 d4 e0 e1 e2 e3 e4
  have L6 := hide (box_ar w6 O F I T J)
  go_wp2_with fail
  refine (unhide H7 _).mono ?_
  rintro e w7 ⟨rfl, b7⟩
  have B7 := hide (tr2 (unhide B6) ((unhide L6).on b7).bel)
  clear B6 L6 b7 H7
  go_wp2_with fail
  refine (unhide H8 _).mono ?_
  rintro e w8 ⟨rfl, rfl⟩
  clear H8
  go_wp2_with fail
  refine (unhide H9 _).mono ?_
  rintro e w9 ⟨rfl, b9⟩
  go_wp2_with fail
  go_ret
  exact ⟨rfl, tr2 (unhide B7) b9⟩

set_option maxRecDepth 20000 in
set_option maxHeartbeats 4000000 in
theorem back_1n (o f i t j o' f' i' t' j' n : Nat) (s : ByteArray) (w : World) (h2 : (s.size : Int) ≤ 4096) (X Y : ByteArray) (O F I T J : Nat) (E3 : Int) (hE3 : (E3 != 0) = true)
    (H1 : Hid (∀ w, Calls Try.prog 8 #[ar o f i t j] w fun x w' => x = .returned (.tuple #[.string X, .int .i64 0]) ∧ Below w.heap.size w w'))
    (H2 : Hid (∀ w, Calls Try.prog 8 #[ar o' f' i' t' j'] w fun x w' => x = .returned (.tuple #[.string Y, .int .i64 0]) ∧ Below w.heap.size w w'))
    (H3 : Hid (∀ w, Calls Try.prog 10 #[.string s] w fun x w' => x = .returned (.tuple #[ar O F I T J, .int .i64 E3]) ∧ Below w.heap.size w w'))
    (hX : X.size = 28) (Z C : ByteArray) (hZ : X ++ s = Z) (n' : Nat) (hn : n < 256) (hn' : n % 28 = n')
    (H4 : Hid (∀ w, Calls Try.prog 10 #[.string Z] w fun x w' => x = .returned (.tuple #[ar o f i t j, .int .i64 0]) ∧ Below w.heap.size w w'))
    (H5 : Hid (∀ w, Calls Try.prog 17 #[.string X, .int .i64 (n' : Int)] w fun x w' => x = .returned (.string C) ∧ w' = w))
    (H6 : Hid (∀ w, Calls Try.prog 10 #[.string C] w fun x w' => x = .returned (.tuple #[ar0, .int .i64 10]) ∧ Below w.heap.size w w'))
    (g : Bool) (hg : (X.toList == Y.toList) = g) (hq : ∀ w, (binOp .eql 27 (ar o f i t j) (ar o' f' i' t' j')).run Try.prog w = .ok (.bool g) w) :
    Calls Try.prog 5 #[ar o f i t j, ar o' f' i' t' j', .string s, .int .u8 (n : Int)] w fun e w' => e = .returned (.bool true) ∧ Below w.heap.size w w' := by
  have H9 := hide alive_any
  have gs := decide_eq_false (show ¬ (4096 : Int) < (s.size : Int) by omega)
  have K0 := hide (box_ar2 w o f i t j o' f' i' t' j')
  have nq := unlike_ar o f i t j
  have wn : IntKind.i64.wrap (n : Int) = (n : Int) := by rw [IntKind.wrap_i64]; omega
  have rn : (n : Int) % 28 = (n' : Int) := by omega
  have nz : ¬ 9223372036854775807 < 28 + s.size := by omega
  have mx : max (28 : Int) 1 = 28 := by decide
  have gg : (g != g) = false := by cases g <;> rfl
  clear h2 hn hn'
  go_enter Try.func5, Try.ntmps5
  go_wp2_with fail
  refine (unhide H1 _).mono ?_
  rintro e w1 ⟨rfl, b1⟩
  have K1 := hide ((unhide K0).on b1)
  clear K0 b1 H1
  obtain ⟨d0, d1, d2, d3, d4⟩ := (unhide K1).five 1 rfl rfl rfl rfl rfl
  go_wp2_with fail
  refine (unhide H2 _).mono ?_
  rintro e w2 ⟨rfl, b2⟩
  have K2 := hide ((unhide K1).on b2)
  clear K1 b2 H2 d0 d1 d2 d3 d4
  go_wp2_with fail
  refine (unhide H4 _).mono ?_
  rintro e w3 ⟨rfl, b3⟩
  have K3 := hide (((unhide K2).on b3).on (below_one _ (arC o f i t j)))
  have L3 := hide (box_ar w3 o f i t j)
  clear K2 b3 H4
  go_wp2_with fail
  refine (unhide H5 _).mono ?_
  rintro e w4 ⟨rfl, rfl⟩
  clear H5
  go_wp2_with fail
  refine (unhide H6 _).mono ?_
  rintro e w5 ⟨rfl, b5⟩
  have K5 := hide (((unhide K3).on b5).on (below_one _ (.cells #[.int .u16 0, .int .u64 0, .int .u32 0, .int .u64 0, .int .u32 0] 27)))
  have L5 := hide (((unhide L3).on b5).on (below_one _ (.cells #[.int .u16 0, .int .u64 0, .int .u32 0, .int .u64 0, .int .u32 0] 27)))
  clear K3 L3 b5 H6
  obtain ⟨c0, c1, c2, c3, c4⟩ := (unhide K5).five0 rfl rfl rfl rfl rfl
  obtain ⟨d0, d1, d2, d3, d4⟩ := (unhide K5).five 1 rfl rfl rfl rfl rfl
  obtain ⟨e0, e1, e2, e3, e4⟩ := (unhide L5).five0 rfl rfl rfl rfl rfl
  have B5 := hide (unhide K5).bel
  clear K5 L5
  go_wp2_with fail
  refine (unhide H3 _).mono ?_
  rintro e w6 ⟨rfl, b6⟩
  have B6 := hide (tr2 (unhide B5) b6)
  clear B5 b6 H3 c0 c1 c2 c3 c4 d0 d1 d2 d3 d4 e0 e1 e2 e3 e4
  have B7 := hide (tr2 (unhide B6) (below_one w6 (arC O F I T J)))
  go_wp2_with fail
  refine (unhide H9 _).mono ?_
  rintro e w7 ⟨rfl, b7⟩
  go_wp2_with fail
  go_ret
  exact ⟨rfl, tr2 (unhide B7) b7⟩

set_option maxRecDepth 20000 in
set_option maxHeartbeats 4000000 in
theorem back_1y (o f i t j o' f' i' t' j' n : Nat) (s : ByteArray) (w : World) (h2 : (s.size : Int) ≤ 4096) (X Y : ByteArray) (O F I T J : Nat) (T1 : ByteArray)
    (H1 : Hid (∀ w, Calls Try.prog 8 #[ar o f i t j] w fun x w' => x = .returned (.tuple #[.string X, .int .i64 0]) ∧ Below w.heap.size w w'))
    (H2 : Hid (∀ w, Calls Try.prog 8 #[ar o' f' i' t' j'] w fun x w' => x = .returned (.tuple #[.string Y, .int .i64 0]) ∧ Below w.heap.size w w'))
    (H3 : Hid (∀ w, Calls Try.prog 10 #[.string s] w fun x w' => x = .returned (.tuple #[ar O F I T J, .int .i64 0]) ∧ Below w.heap.size w w'))
    (hX : X.size = 28) (Z C : ByteArray) (hZ : X ++ s = Z) (n' : Nat) (hn : n < 256) (hn' : n % 28 = n')
    (H4 : Hid (∀ w, Calls Try.prog 10 #[.string Z] w fun x w' => x = .returned (.tuple #[ar o f i t j, .int .i64 0]) ∧ Below w.heap.size w w'))
    (H5 : Hid (∀ w, Calls Try.prog 17 #[.string X, .int .i64 (n' : Int)] w fun x w' => x = .returned (.string C) ∧ w' = w))
    (H6 : Hid (∀ w, Calls Try.prog 10 #[.string C] w fun x w' => x = .returned (.tuple #[ar0, .int .i64 10]) ∧ Below w.heap.size w w'))
    (g : Bool) (hg : (X.toList == Y.toList) = g) (hq : ∀ w, (binOp .eql 27 (ar o f i t j) (ar o' f' i' t' j')).run Try.prog w = .ok (.bool g) w)
    (hT : T1.size = 28)
    (H7 : Hid (∀ w, Calls Try.prog 8 #[ar O F I T J] w fun x w' => x = .returned (.tuple #[.string T1, .int .i64 0]) ∧ Below w.heap.size w w'))
    (H8 : Hid (∀ w, Calls Try.prog 17 #[.string s, .int .i64 28] w fun x w' => x = .returned (.string T1) ∧ w' = w)) :
    Calls Try.prog 5 #[ar o f i t j, ar o' f' i' t' j', .string s, .int .u8 (n : Int)] w fun e w' => e = .returned (.bool true) ∧ Below w.heap.size w w' := by
  have H9 := hide alive_any
  have gs := decide_eq_false (show ¬ (4096 : Int) < (s.size : Int) by omega)
  have K0 := hide (box_ar2 w o f i t j o' f' i' t' j')
  have nq := unlike_ar o f i t j
  have wn : IntKind.i64.wrap (n : Int) = (n : Int) := by rw [IntKind.wrap_i64]; omega
  have rn : (n : Int) % 28 = (n' : Int) := by omega
  have nz : ¬ 9223372036854775807 < 28 + s.size := by omega
  have mx : max (28 : Int) 1 = 28 := by decide
  have gg : (g != g) = false := by cases g <;> rfl
  have tt := toList_refl T1
  clear h2 hn hn'
  go_enter Try.func5, Try.ntmps5
  go_wp2_with fail
  refine (unhide H1 _).mono ?_
  rintro e w1 ⟨rfl, b1⟩
  have K1 := hide ((unhide K0).on b1)
  clear K0 b1 H1
  obtain ⟨d0, d1, d2, d3, d4⟩ := (unhide K1).five 1 rfl rfl rfl rfl rfl
  go_wp2_with fail
  refine (unhide H2 _).mono ?_
  rintro e w2 ⟨rfl, b2⟩
  have K2 := hide ((unhide K1).on b2)
  clear K1 b2 H2 d0 d1 d2 d3 d4
  go_wp2_with fail
  refine (unhide H4 _).mono ?_
  rintro e w3 ⟨rfl, b3⟩
  have K3 := hide (((unhide K2).on b3).on (below_one _ (arC o f i t j)))
  have L3 := hide (box_ar w3 o f i t j)
  clear K2 b3 H4
  go_wp2_with fail
  refine (unhide H5 _).mono ?_
  rintro e w4 ⟨rfl, rfl⟩
  clear H5
  go_wp2_with fail
  refine (unhide H6 _).mono ?_
  rintro e w5 ⟨rfl, b5⟩
  have K5 := hide (((unhide K3).on b5).on (below_one _ (.cells #[.int .u16 0, .int .u64 0, .int .u32 0, .int .u64 0, .int .u32 0] 27)))
  have L5 := hide (((unhide L3).on b5).on (below_one _ (.cells #[.int .u16 0, .int .u64 0, .int .u32 0, .int .u64 0, .int .u32 0] 27)))
  clear K3 L3 b5 H6
  obtain ⟨c0, c1, c2, c3, c4⟩ := (unhide K5).five0 rfl rfl rfl rfl rfl
  obtain ⟨d0, d1, d2, d3, d4⟩ := (unhide K5).five 1 rfl rfl rfl rfl rfl
  obtain ⟨e0, e1, e2, e3, e4⟩ := (unhide L5).five0 rfl rfl rfl rfl rfl
  have B5 := hide (unhide K5).bel
  clear K5 L5
  go_wp2_with fail
  refine (unhide H3 _).mono ?_
  rintro e w6 ⟨rfl, b6⟩
  have B6 := hide (tr2 (unhide B5) b6)
  clear B5 b6 H3 c0 c1 c2 c3 c4 d0 d1 d2 d3 d4 e0 e1 e2 e3 e4
  have L6 := hide (box_ar w6 O F I T J)
  go_wp2_with fail
  refine (unhide H7 _).mono ?_
  rintro e w7 ⟨rfl, b7⟩
  have B7 := hide (tr2 (unhide B6) ((unhide L6).on b7).bel)
  clear B6 L6 b7 H7
  go_wp2_with fail
  refine (unhide H8 _).mono ?_
  rintro e w8 ⟨rfl, rfl⟩
  clear H8
  go_wp2_with fail
  refine (unhide H9 _).mono ?_
  rintro e w9 ⟨rfl, b9⟩
  go_wp2_with fail
  go_ret
  exact ⟨rfl, tr2 (unhide B7) b9⟩

theorem arpBack_walk (v : Value) (o f i t j : Nat) (v' : Value) (o' f' i' t' j' : Nat) (s : ByteArray) (m : Int) (w : World) (hv : IsArp v o f i t j) (hv' : IsArp v' o' f' i' t' j') (hs : s.size ≤ maxLen) (hm : (Lit.int .u8 m).wf = true) :
    Calls Try.prog 5 #[v, v', .string s, .int .u8 m] w fun e w' => e = .returned (.bool true) ∧ Below w.heap.size w w' := by
  obtain ⟨rfl, ho, hf, hi, ht, hj⟩ := hv
  obtain ⟨rfl, go, gf, gi, gt, gj⟩ := hv'
  obtain ⟨n, rfl, hn⟩ := nat8 hm
  by_cases h2 : (4096 : Int) < (s.size : Int)
  · exact back_long o f i t j o' f' i' t' j' n s w h2
  · obtain ⟨X, E1, he⟩ := enc_ex o f i t j
    obtain ⟨Y, E2, he2⟩ := enc_ex o' f' i' t' j'
    obtain ⟨O, F, I, T, J, E3, hd2⟩ := dec_ex s
    have h2' : (s.size : Int) ≤ 4096 := by omega
    have C1 := fun w => encode_any o f i t j w ho hf hi ht hj he
    have C2 := fun w => encode_any o' f' i' t' j' w go gf gi gt gj he2
    have C3 := fun w => decode_any s w hs hd2
    have nl : n % 28 < 28 := Nat.mod_lt _ (by omega)
    by_cases k3 : E3 = 0
    · subst k3
      obtain ⟨g1, g2, g3, g4, g5, g6, g7⟩ := dec_encIs hd2
      have C7 := fun w => encode_any O F I T J w g3 (by omega) g5 (by omega) g7 g1
      have hT : (s.extract 0 28).size = 28 := by rw [ByteArray.size_extract]; omega
      have C8 := fun w => cut_any s 28 w
      rcases he with ⟨_, rfl, rfl⟩ | ⟨⟨a1, a2, a3⟩, rfl, rfl⟩
      · exact back_ny o f i t j o' f' i' t' j' n s w h2' _ Y 2 rfl E2 O F I T J _ C1 C2 C3 hT C7 C8
      · have hX := enc_size o f i t j
        have hz : (encB o f i t j ++ s).size ≤ maxLen := by rw [ByteArray.size_append, hX]; unfold maxLen; omega
        have C4 := fun w => decode_any (encB o f i t j ++ s) w hz (enc_dec s a1 ho a2 hi a3 hj)
        have C5 := fun w => cut_any (encB o f i t j) (n % 28) w
        have C6 := fun w => dec_short ((encB o f i t j).extract 0 (n % 28)) w (by rw [ByteArray.size_extract]; omega)
        rcases he2 with ⟨_, rfl, rfl⟩ | ⟨⟨b1, b2, b3⟩, rfl, rfl⟩
        · exact back_0y o f i t j o' f' i' t' j' n s w h2' _ _ 2 rfl O F I T J _ C1 C2 C3 hX _ _ rfl (n % 28) hn rfl C4 C5 C6 hT C7 C8
        · exact back_1y o f i t j o' f' i' t' j' n s w h2' _ _ O F I T J _ C1 C2 C3 hX _ _ rfl (n % 28) hn rfl C4 C5 C6 _ (enc_alike a1 ho a2 hi a3 hj b1 go b2 gi b3 gj) (fun w => eql_ar o f i t j o' f' i' t' j' w) hT C7 C8
    · have k3' : (E3 != 0) = true := bne_iff_ne.2 k3
      rcases he with ⟨_, rfl, rfl⟩ | ⟨⟨a1, a2, a3⟩, rfl, rfl⟩
      · exact back_nn o f i t j o' f' i' t' j' n s w h2' _ Y 2 rfl E2 O F I T J E3 k3' C1 C2 C3
      · have hX := enc_size o f i t j
        have hz : (encB o f i t j ++ s).size ≤ maxLen := by rw [ByteArray.size_append, hX]; unfold maxLen; omega
        have C4 := fun w => decode_any (encB o f i t j ++ s) w hz (enc_dec s a1 ho a2 hi a3 hj)
        have C5 := fun w => cut_any (encB o f i t j) (n % 28) w
        have C6 := fun w => dec_short ((encB o f i t j).extract 0 (n % 28)) w (by rw [ByteArray.size_extract]; omega)
        rcases he2 with ⟨_, rfl, rfl⟩ | ⟨⟨b1, b2, b3⟩, rfl, rfl⟩
        · exact back_0n o f i t j o' f' i' t' j' n s w h2' _ _ 2 rfl O F I T J E3 k3' C1 C2 C3 hX _ _ rfl (n % 28) hn rfl C4 C5 C6
        · exact back_1n o f i t j o' f' i' t' j' n s w h2' _ _ O F I T J E3 k3' C1 C2 C3 hX _ _ rfl (n % 28) hn rfl C4 C5 C6 _ (enc_alike a1 ho a2 hi a3 hj b1 go b2 gi b3 gj) (fun w => eql_ar o f i t j o' f' i' t' j' w)

end Go.Proofs.Ytkmhhlimhiiciaa
