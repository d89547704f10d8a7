/- The walk of the law EtherEnds, over the loaded program: true; no memory that was there has turned. No conditions. -/
import Derived.Test.YtdgjoconppmihaaBk7
import Derived.Test.YtdgjoconppmihaaRf9
namespace Go.Proofs.Ytdgjoconppmihaa
open Go.RowKit

set_option maxRecDepth 20000 in
set_option maxHeartbeats 2000000 in
theorem ends_gn (o : Int) (a A n m q : Nat) (w : World) (ho1 : -128 ≤ o) (ho2 : o ≤ 127) (S : ByteArray)
    (hmk1 : ∀ w, (Instr.makeSlice 46 (.int .i64 (65535 + o)) (.int .i64 (65535 + o))).run Try.prog w = .ok (.slice (some ⟨w.heap.size, 0, none⟩) n n) (w.alloc (zc n)))
    (hmk2 : ∀ w, (Instr.makeSlice 46 (.int .i64 (65549 + o)) (.int .i64 (65549 + o))).run Try.prog w = .ok (.slice (some ⟨w.heap.size, 0, none⟩) m m) (w.alloc (zc m)))
    (hmk3 : ∀ w, (Instr.makeSlice 46 (.int .i64 (q : Int)) (.int .i64 (q : Int))).run Try.prog w = .ok (.slice (some ⟨w.heap.size, 0, none⟩) q q) (w.alloc (zc q)))
    (hmx : max 0 (60 + o) = (q : Int))
    (ea : bits .and .u64 (a : Int) 281474976710655 = (A : Int))
    (hg1 : bits .and .u64 ((A : Int) / 1099511627776) 1 = (A : Int) / 1099511627776 % 2) (hg2 : ((A : Int) / 1099511627776 % 2 == 1) = true)
    (ho3 : decide (o ≤ 0) = true) (ho4 : decide (0 ≤ o) = false)
    (H1 : Hid (∀ w, Calls Try.prog 10 #[.agg #[.int .u64 1, .int .u64 (A : Int), .int .u16 0, .string (zs n)]] w fun x w' => x = .returned (.tuple #[.string S, .int .i64 2]) ∧ Below w.heap.size w w'))
    (T F K : Nat) (D : ByteArray) (H2 : Hid (∀ w, Calls Try.prog 12 #[.string (zs m)] w fun x w' => x = .returned (.tuple #[fr T F K D, .int .i64 0]) ∧ Below w.heap.size w w'))
    (T2 F2 K2 : Nat) (D2 : ByteArray) (H3 : Hid (∀ w, Calls Try.prog 12 #[.string (zs q)] w fun x w' => x = .returned (.tuple #[fr T2 F2 K2 D2, .int .i64 10]) ∧ Below w.heap.size w w')) :
    Calls Try.prog 7 #[.int .i8 o, .int .u64 (a : Int)] w fun e w' => e = .returned (.bool true) ∧ Below w.heap.size w w' := by
  have H5 := hide alive_any
  have hcv := fun w => cvz n w
  have hcv2 := fun w => cvz m w
  have hcv3 := fun w o => cvz1 q w o
  generalize zs n = Zn at *
  generalize zs m = Zm at *
  generalize zs q = Zq at *
  have BA := hide (below_one w (zc n))
  have K := hide (box_start (w.alloc (zc n)) 1 A 0 Zn 26)
  go_enter Try.func7, Try.ntmps7
  go_wp2_with fail
  refine (unhide H1 _).mono ?_
  rintro e w1 ⟨rfl, b1⟩
  have B1 := hide (tr2 (unhide BA) ((unhide K).on b1).bel)
  clear K BA b1 H1 hcv hmk1
  go_wp2_with fail
  refine (unhide H2 _).mono ?_
  rintro e w2 ⟨rfl, b2⟩
  have B2 := hide (tr2 (tr2 (unhide B1) (below_one w1 (zc m))) b2)
  clear B1 b2 H2 hcv2 hmk2
  have B3 := hide (tr2 (unhide B2) (below_one w2 (.cells #[.int .u64 (T : Int), .int .u64 (F : Int), .int .u16 (K : Int), .string D] 26)))
  clear B2
  go_wp2_with fail
  refine (unhide H3 _).mono ?_
  rintro e w3 ⟨rfl, b3⟩
  have B4 := hide (tr2 (tr2 (unhide B3) (below_one _ (zc q))) b3)
  have B5 := hide (tr2 (unhide B4) (below_one w3 (.cells #[.int .u64 (T2 : Int), .int .u64 (F2 : Int), .int .u16 (K2 : Int), .string D2] 26)))
  clear B3 b3 H3 hcv3 hmk3 B4
  go_wp2_with fail
  refine (unhide H5 _).mono ?_
  rintro e w4 ⟨rfl, b4⟩
  go_wp2_with fail
  go_ret
  exact ⟨rfl, tr2 (unhide B5) b4⟩

set_option maxRecDepth 20000 in
set_option maxHeartbeats 2000000 in
theorem ends_gz (o : Int) (a A n m q : Nat) (w : World) (ho1 : -128 ≤ o) (ho2 : o ≤ 127) (S : ByteArray)
    (hmk1 : ∀ w, (Instr.makeSlice 46 (.int .i64 (65535 + o)) (.int .i64 (65535 + o))).run Try.prog w = .ok (.slice (some ⟨w.heap.size, 0, none⟩) n n) (w.alloc (zc n)))
    (hmk2 : ∀ w, (Instr.makeSlice 46 (.int .i64 (65549 + o)) (.int .i64 (65549 + o))).run Try.prog w = .ok (.slice (some ⟨w.heap.size, 0, none⟩) m m) (w.alloc (zc m)))
    (hmk3 : ∀ w, (Instr.makeSlice 46 (.int .i64 (q : Int)) (.int .i64 (q : Int))).run Try.prog w = .ok (.slice (some ⟨w.heap.size, 0, none⟩) q q) (w.alloc (zc q)))
    (hmx : max 0 (60 + o) = (q : Int))
    (ea : bits .and .u64 (a : Int) 281474976710655 = (A : Int))
    (hg1 : bits .and .u64 ((A : Int) / 1099511627776) 1 = (A : Int) / 1099511627776 % 2) (hg2 : ((A : Int) / 1099511627776 % 2 == 1) = true)
    (ho3 : decide (o ≤ 0) = true) (ho4 : decide (0 ≤ o) = true)
    (H1 : Hid (∀ w, Calls Try.prog 10 #[.agg #[.int .u64 1, .int .u64 (A : Int), .int .u16 0, .string (zs n)]] w fun x w' => x = .returned (.tuple #[.string S, .int .i64 2]) ∧ Below w.heap.size w w'))
    (T F K : Nat) (D : ByteArray) (H2 : Hid (∀ w, Calls Try.prog 12 #[.string (zs m)] w fun x w' => x = .returned (.tuple #[fr T F K D, .int .i64 0]) ∧ Below w.heap.size w w'))
    (T2 F2 K2 : Nat) (D2 : ByteArray) (H3 : Hid (∀ w, Calls Try.prog 12 #[.string (zs q)] w fun x w' => x = .returned (.tuple #[fr T2 F2 K2 D2, .int .i64 0]) ∧ Below w.heap.size w w')) :
    Calls Try.prog 7 #[.int .i8 o, .int .u64 (a : Int)] w fun e w' => e = .returned (.bool true) ∧ Below w.heap.size w w' := by
  have H5 := hide alive_any
  have hcv := fun w => cvz n w
  have hcv2 := fun w => cvz m w
  have hcv3 := fun w o => cvz1 q w o
  generalize zs n = Zn at *
  generalize zs m = Zm at *
  generalize zs q = Zq at *
  have BA := hide (below_one w (zc n))
  have K := hide (box_start (w.alloc (zc n)) 1 A 0 Zn 26)
  go_enter Try.func7, Try.ntmps7
  go_wp2_with fail
  refine (unhide H1 _).mono ?_
  rintro e w1 ⟨rfl, b1⟩
  have B1 := hide (tr2 (unhide BA) ((unhide K).on b1).bel)
  clear K BA b1 H1 hcv hmk1
  go_wp2_with fail
  refine (unhide H2 _).mono ?_
  rintro e w2 ⟨rfl, b2⟩
  have B2 := hide (tr2 (tr2 (unhide B1) (below_one w1 (zc m))) b2)
  clear B1 b2 H2 hcv2 hmk2
  have B3 := hide (tr2 (unhide B2) (below_one w2 (.cells #[.int .u64 (T : Int), .int .u64 (F : Int), .int .u16 (K : Int), .string D] 26)))
  clear B2
  go_wp2_with fail
  refine (unhide H3 _).mono ?_
  rintro e w3 ⟨rfl, b3⟩
  have B4 := hide (tr2 (tr2 (unhide B3) (below_one _ (zc q))) b3)
  have B5 := hide (tr2 (unhide B4) (below_one w3 (.cells #[.int .u64 (T2 : Int), .int .u64 (F2 : Int), .int .u16 (K2 : Int), .string D2] 26)))
  clear B3 b3 H3 hcv3 hmk3 B4
  go_wp2_with fail
  refine (unhide H5 _).mono ?_
  rintro e w4 ⟨rfl, b4⟩
  go_wp2_with fail
  go_ret
  exact ⟨rfl, tr2 (unhide B5) b4⟩

set_option maxRecDepth 20000 in
set_option maxHeartbeats 2000000 in
theorem ends_gp (o : Int) (a A n m q : Nat) (w : World) (ho1 : -128 ≤ o) (ho2 : o ≤ 127) (S : ByteArray)
    (hmk1 : ∀ w, (Instr.makeSlice 46 (.int .i64 (65535 + o)) (.int .i64 (65535 + o))).run Try.prog w = .ok (.slice (some ⟨w.heap.size, 0, none⟩) n n) (w.alloc (zc n)))
    (hmk2 : ∀ w, (Instr.makeSlice 46 (.int .i64 (65549 + o)) (.int .i64 (65549 + o))).run Try.prog w = .ok (.slice (some ⟨w.heap.size, 0, none⟩) m m) (w.alloc (zc m)))
    (hmk3 : ∀ w, (Instr.makeSlice 46 (.int .i64 (q : Int)) (.int .i64 (q : Int))).run Try.prog w = .ok (.slice (some ⟨w.heap.size, 0, none⟩) q q) (w.alloc (zc q)))
    (hmx : max 0 (60 + o) = (q : Int))
    (ea : bits .and .u64 (a : Int) 281474976710655 = (A : Int))
    (hg1 : bits .and .u64 ((A : Int) / 1099511627776) 1 = (A : Int) / 1099511627776 % 2) (hg2 : ((A : Int) / 1099511627776 % 2 == 1) = true)
    (ho3 : decide (o ≤ 0) = false) (ho4 : decide (0 ≤ o) = true)
    (H1 : Hid (∀ w, Calls Try.prog 10 #[.agg #[.int .u64 1, .int .u64 (A : Int), .int .u16 0, .string (zs n)]] w fun x w' => x = .returned (.tuple #[.string S, .int .i64 2]) ∧ Below w.heap.size w w'))
    (T F K : Nat) (D : ByteArray) (H2 : Hid (∀ w, Calls Try.prog 12 #[.string (zs m)] w fun x w' => x = .returned (.tuple #[fr T F K D, .int .i64 4]) ∧ Below w.heap.size w w'))
    (T2 F2 K2 : Nat) (D2 : ByteArray) (H3 : Hid (∀ w, Calls Try.prog 12 #[.string (zs q)] w fun x w' => x = .returned (.tuple #[fr T2 F2 K2 D2, .int .i64 0]) ∧ Below w.heap.size w w')) :
    Calls Try.prog 7 #[.int .i8 o, .int .u64 (a : Int)] w fun e w' => e = .returned (.bool true) ∧ Below w.heap.size w w' := by
  have H5 := hide alive_any
  have hcv := fun w => cvz n w
  have hcv2 := fun w => cvz m w
  have hcv3 := fun w o => cvz1 q w o
  generalize zs n = Zn at *
  generalize zs m = Zm at *
  generalize zs q = Zq at *
  have BA := hide (below_one w (zc n))
  have K := hide (box_start (w.alloc (zc n)) 1 A 0 Zn 26)
  go_enter Try.func7, Try.ntmps7
  go_wp2_with fail
  refine (unhide H1 _).mono ?_
  rintro e w1 ⟨rfl, b1⟩
  have B1 := hide (tr2 (unhide BA) ((unhide K).on b1).bel)
  clear K BA b1 H1 hcv hmk1
  go_wp2_with fail
  refine (unhide H2 _).mono ?_
  rintro e w2 ⟨rfl, b2⟩
  have B2 := hide (tr2 (tr2 (unhide B1) (below_one w1 (zc m))) b2)
  clear B1 b2 H2 hcv2 hmk2
  have B3 := hide (tr2 (unhide B2) (below_one w2 (.cells #[.int .u64 (T : Int), .int .u64 (F : Int), .int .u16 (K : Int), .string D] 26)))
  clear B2
  go_wp2_with fail
  refine (unhide H3 _).mono ?_
  rintro e w3 ⟨rfl, b3⟩
  have B4 := hide (tr2 (tr2 (unhide B3) (below_one _ (zc q))) b3)
  have B5 := hide (tr2 (unhide B4) (below_one w3 (.cells #[.int .u64 (T2 : Int), .int .u64 (F2 : Int), .int .u16 (K2 : Int), .string D2] 26)))
  clear B3 b3 H3 hcv3 hmk3 B4
  go_wp2_with fail
  refine (unhide H5 _).mono ?_
  rintro e w4 ⟨rfl, b4⟩
  go_wp2_with fail
  go_ret
  exact ⟨rfl, tr2 (unhide B5) b4⟩

set_option maxRecDepth 20000 in
set_option maxHeartbeats 2000000 in
theorem ends_fn (o : Int) (a A n m q : Nat) (w : World) (ho1 : -128 ≤ o) (ho2 : o ≤ 127) (S : ByteArray)
    (hmk1 : ∀ w, (Instr.makeSlice 46 (.int .i64 (65535 + o)) (.int .i64 (65535 + o))).run Try.prog w = .ok (.slice (some ⟨w.heap.size, 0, none⟩) n n) (w.alloc (zc n)))
    (hmk2 : ∀ w, (Instr.makeSlice 46 (.int .i64 (65549 + o)) (.int .i64 (65549 + o))).run Try.prog w = .ok (.slice (some ⟨w.heap.size, 0, none⟩) m m) (w.alloc (zc m)))
    (hmk3 : ∀ w, (Instr.makeSlice 46 (.int .i64 (q : Int)) (.int .i64 (q : Int))).run Try.prog w = .ok (.slice (some ⟨w.heap.size, 0, none⟩) q q) (w.alloc (zc q)))
    (hmx : max 0 (60 + o) = (q : Int))
    (ea : bits .and .u64 (a : Int) 281474976710655 = (A : Int))
    (hg1 : bits .and .u64 ((A : Int) / 1099511627776) 1 = (A : Int) / 1099511627776 % 2) (hg2 : ((A : Int) / 1099511627776 % 2 == 1) = false)
    (ho3 : decide (o ≤ 0) = true) (ho4 : decide (0 ≤ o) = false)
    (hS : ((S.size : Int) == 65535 + o + 14) = true)
    (H1 : Hid (∀ w, Calls Try.prog 10 #[.agg #[.int .u64 1, .int .u64 (A : Int), .int .u16 0, .string (zs n)]] w fun x w' => x = .returned (.tuple #[.string S, .int .i64 0]) ∧ Below w.heap.size w w'))
    (T F K : Nat) (D : ByteArray) (H2 : Hid (∀ w, Calls Try.prog 12 #[.string (zs m)] w fun x w' => x = .returned (.tuple #[fr T F K D, .int .i64 0]) ∧ Below w.heap.size w w'))
    (T2 F2 K2 : Nat) (D2 : ByteArray) (H3 : Hid (∀ w, Calls Try.prog 12 #[.string (zs q)] w fun x w' => x = .returned (.tuple #[fr T2 F2 K2 D2, .int .i64 10]) ∧ Below w.heap.size w w')) :
    Calls Try.prog 7 #[.int .i8 o, .int .u64 (a : Int)] w fun e w' => e = .returned (.bool true) ∧ Below w.heap.size w w' := by
  have H5 := hide alive_any
  have hcv := fun w => cvz n w
  have hcv2 := fun w => cvz m w
  have hcv3 := fun w o => cvz1 q w o
  generalize zs n = Zn at *
  generalize zs m = Zm at *
  generalize zs q = Zq at *
  have BA := hide (below_one w (zc n))
  have K := hide (box_start (w.alloc (zc n)) 1 A 0 Zn 26)
  go_enter Try.func7, Try.ntmps7
  go_wp2_with fail
  refine (unhide H1 _).mono ?_
  rintro e w1 ⟨rfl, b1⟩
  have B1 := hide (tr2 (unhide BA) ((unhide K).on b1).bel)
  clear K BA b1 H1 hcv hmk1
  go_wp2_with fail
  refine (unhide H2 _).mono ?_
  rintro e w2 ⟨rfl, b2⟩
  have B2 := hide (tr2 (tr2 (unhide B1) (below_one w1 (zc m))) b2)
  clear B1 b2 H2 hcv2 hmk2
  have B3 := hide (tr2 (unhide B2) (below_one w2 (.cells #[.int .u64 (T : Int), .int .u64 (F : Int), .int .u16 (K : Int), .string D] 26)))
  clear B2
  go_wp2_with fail
  refine (unhide H3 _).mono ?_
  rintro e w3 ⟨rfl, b3⟩
  have B4 := hide (tr2 (tr2 (unhide B3) (below_one _ (zc q))) b3)
  have B5 := hide (tr2 (unhide B4) (below_one w3 (.cells #[.int .u64 (T2 : Int), .int .u64 (F2 : Int), .int .u16 (K2 : Int), .string D2] 26)))
  clear B3 b3 H3 hcv3 hmk3 B4
  go_wp2_with fail
  refine (unhide H5 _).mono ?_
  rintro e w4 ⟨rfl, b4⟩
  go_wp2_with fail
  go_ret
  exact ⟨rfl, tr2 (unhide B5) b4⟩

set_option maxRecDepth 20000 in
set_option maxHeartbeats 2000000 in
theorem ends_fz (o : Int) (a A n m q : Nat) (w : World) (ho1 : -128 ≤ o) (ho2 : o ≤ 127) (S : ByteArray)
    (hmk1 : ∀ w, (Instr.makeSlice 46 (.int .i64 (65535 + o)) (.int .i64 (65535 + o))).run Try.prog w = .ok (.slice (some ⟨w.heap.size, 0, none⟩) n n) (w.alloc (zc n)))
    (hmk2 : ∀ w, (Instr.makeSlice 46 (.int .i64 (65549 + o)) (.int .i64 (65549 + o))).run Try.prog w = .ok (.slice (some ⟨w.heap.size, 0, none⟩) m m) (w.alloc (zc m)))
    (hmk3 : ∀ w, (Instr.makeSlice 46 (.int .i64 (q : Int)) (.int .i64 (q : Int))).run Try.prog w = .ok (.slice (some ⟨w.heap.size, 0, none⟩) q q) (w.alloc (zc q)))
    (hmx : max 0 (60 + o) = (q : Int))
    (ea : bits .and .u64 (a : Int) 281474976710655 = (A : Int))
    (hg1 : bits .and .u64 ((A : Int) / 1099511627776) 1 = (A : Int) / 1099511627776 % 2) (hg2 : ((A : Int) / 1099511627776 % 2 == 1) = false)
    (ho3 : decide (o ≤ 0) = true) (ho4 : decide (0 ≤ o) = true)
    (hS : ((S.size : Int) == 65535 + o + 14) = true)
    (H1 : Hid (∀ w, Calls Try.prog 10 #[.agg #[.int .u64 1, .int .u64 (A : Int), .int .u16 0, .string (zs n)]] w fun x w' => x = .returned (.tuple #[.string S, .int .i64 0]) ∧ Below w.heap.size w w'))
    (T F K : Nat) (D : ByteArray) (H2 : Hid (∀ w, Calls Try.prog 12 #[.string (zs m)] w fun x w' => x = .returned (.tuple #[fr T F K D, .int .i64 0]) ∧ Below w.heap.size w w'))
    (T2 F2 K2 : Nat) (D2 : ByteArray) (H3 : Hid (∀ w, Calls Try.prog 12 #[.string (zs q)] w fun x w' => x = .returned (.tuple #[fr T2 F2 K2 D2, .int .i64 0]) ∧ Below w.heap.size w w')) :
    Calls Try.prog 7 #[.int .i8 o, .int .u64 (a : Int)] w fun e w' => e = .returned (.bool true) ∧ Below w.heap.size w w' := by
  have H5 := hide alive_any
  have hcv := fun w => cvz n w
  have hcv2 := fun w => cvz m w
  have hcv3 := fun w o => cvz1 q w o
  generalize zs n = Zn at *
  generalize zs m = Zm at *
  generalize zs q = Zq at *
  have BA := hide (below_one w (zc n))
  have K := hide (box_start (w.alloc (zc n)) 1 A 0 Zn 26)
  go_enter Try.func7, Try.ntmps7
  go_wp2_with fail
  refine (unhide H1 _).mono ?_
  rintro e w1 ⟨rfl, b1⟩
  have B1 := hide (tr2 (unhide BA) ((unhide K).on b1).bel)
  clear K BA b1 H1 hcv hmk1
  go_wp2_with fail
  refine (unhide H2 _).mono ?_
  rintro e w2 ⟨rfl, b2⟩
  have B2 := hide (tr2 (tr2 (unhide B1) (below_one w1 (zc m))) b2)
  clear B1 b2 H2 hcv2 hmk2
  have B3 := hide (tr2 (unhide B2) (below_one w2 (.cells #[.int .u64 (T : Int), .int .u64 (F : Int), .int .u16 (K : Int), .string D] 26)))
  clear B2
  go_wp2_with fail
  refine (unhide H3 _).mono ?_
  rintro e w3 ⟨rfl, b3⟩
  have B4 := hide (tr2 (tr2 (unhide B3) (below_one _ (zc q))) b3)
  have B5 := hide (tr2 (unhide B4) (below_one w3 (.cells #[.int .u64 (T2 : Int), .int .u64 (F2 : Int), .int .u16 (K2 : Int), .string D2] 26)))
  clear B3 b3 H3 hcv3 hmk3 B4
  go_wp2_with fail
  refine (unhide H5 _).mono ?_
  rintro e w4 ⟨rfl, b4⟩
  go_wp2_with fail
  go_ret
  exact ⟨rfl, tr2 (unhide B5) b4⟩

set_option maxRecDepth 20000 in
set_option maxHeartbeats 2000000 in
theorem ends_fp (o : Int) (a A n m q : Nat) (w : World) (ho1 : -128 ≤ o) (ho2 : o ≤ 127) (S : ByteArray)
    (hmk1 : ∀ w, (Instr.makeSlice 46 (.int .i64 (65535 + o)) (.int .i64 (65535 + o))).run Try.prog w = .ok (.slice (some ⟨w.heap.size, 0, none⟩) n n) (w.alloc (zc n)))
    (hmk2 : ∀ w, (Instr.makeSlice 46 (.int .i64 (65549 + o)) (.int .i64 (65549 + o))).run Try.prog w = .ok (.slice (some ⟨w.heap.size, 0, none⟩) m m) (w.alloc (zc m)))
    (hmk3 : ∀ w, (Instr.makeSlice 46 (.int .i64 (q : Int)) (.int .i64 (q : Int))).run Try.prog w = .ok (.slice (some ⟨w.heap.size, 0, none⟩) q q) (w.alloc (zc q)))
    (hmx : max 0 (60 + o) = (q : Int))
    (ea : bits .and .u64 (a : Int) 281474976710655 = (A : Int))
    (hg1 : bits .and .u64 ((A : Int) / 1099511627776) 1 = (A : Int) / 1099511627776 % 2) (hg2 : ((A : Int) / 1099511627776 % 2 == 1) = false)
    (ho3 : decide (o ≤ 0) = false) (ho4 : decide (0 ≤ o) = true)
    (H1 : Hid (∀ w, Calls Try.prog 10 #[.agg #[.int .u64 1, .int .u64 (A : Int), .int .u16 0, .string (zs n)]] w fun x w' => x = .returned (.tuple #[.string S, .int .i64 4]) ∧ Below w.heap.size w w'))
    (T F K : Nat) (D : ByteArray) (H2 : Hid (∀ w, Calls Try.prog 12 #[.string (zs m)] w fun x w' => x = .returned (.tuple #[fr T F K D, .int .i64 4]) ∧ Below w.heap.size w w'))
    (T2 F2 K2 : Nat) (D2 : ByteArray) (H3 : Hid (∀ w, Calls Try.prog 12 #[.string (zs q)] w fun x w' => x = .returned (.tuple #[fr T2 F2 K2 D2, .int .i64 0]) ∧ Below w.heap.size w w')) :
    Calls Try.prog 7 #[.int .i8 o, .int .u64 (a : Int)] w fun e w' => e = .returned (.bool true) ∧ Below w.heap.size w w' := by
  have H5 := hide alive_any
  have hcv := fun w => cvz n w
  have hcv2 := fun w => cvz m w
  have hcv3 := fun w o => cvz1 q w o
  generalize zs n = Zn at *
  generalize zs m = Zm at *
  generalize zs q = Zq at *
  have BA := hide (below_one w (zc n))
  have K := hide (box_start (w.alloc (zc n)) 1 A 0 Zn 26)
  go_enter Try.func7, Try.ntmps7
  go_wp2_with fail
  refine (unhide H1 _).mono ?_
  rintro e w1 ⟨rfl, b1⟩
  have B1 := hide (tr2 (unhide BA) ((unhide K).on b1).bel)
  clear K BA b1 H1 hcv hmk1
  go_wp2_with fail
  refine (unhide H2 _).mono ?_
  rintro e w2 ⟨rfl, b2⟩
  have B2 := hide (tr2 (tr2 (unhide B1) (below_one w1 (zc m))) b2)
  clear B1 b2 H2 hcv2 hmk2
  have B3 := hide (tr2 (unhide B2) (below_one w2 (.cells #[.int .u64 (T : Int), .int .u64 (F : Int), .int .u16 (K : Int), .string D] 26)))
  clear B2
  go_wp2_with fail
  refine (unhide H3 _).mono ?_
  rintro e w3 ⟨rfl, b3⟩
  have B4 := hide (tr2 (tr2 (unhide B3) (below_one _ (zc q))) b3)
  have B5 := hide (tr2 (unhide B4) (below_one w3 (.cells #[.int .u64 (T2 : Int), .int .u64 (F2 : Int), .int .u16 (K2 : Int), .string D2] 26)))
  clear B3 b3 H3 hcv3 hmk3 B4
  go_wp2_with fail
  refine (unhide H5 _).mono ?_
  rintro e w4 ⟨rfl, b4⟩
  go_wp2_with fail
  go_ret
  exact ⟨rfl, tr2 (unhide B5) b4⟩

theorem zs_fld (n k j : Nat) : num (fld (zs n) k j) = 0 := by
  have h : ∀ l : List UInt8, (∀ x ∈ l, x = 0) → num l = 0 := by
    intro l
    induction l with
    | nil => intro _; rfl
    | cons c l ih =>
      intro hl
      rw [num_cons, ih (fun x hx => hl x (List.mem_cons_of_mem _ hx)), hl c (List.mem_cons_self ..)]
      simp
  apply h
  intro x hx
  unfold fld at hx
  have h1 := List.mem_of_mem_drop (List.mem_of_mem_take hx)
  rw [show (zs n).data.toList = List.replicate n 0 from by unfold zs; simp] at h1
  exact List.eq_of_mem_replicate h1
theorem zs_dec (n : Nat) (h1 : 60 ≤ n) (h2 : n ≤ 65549) : DecIs (zs n) 0 0 0 ((zs n).extract 14 (zs n).size) 0 := by
  refine .inr (.inr (.inr ⟨⟨by rw [zs_size]; exact h1, by rw [zs_size]; exact h2, by rw [zs_fld]; decide +kernel⟩, (zs_fld n 0 6).symm, (zs_fld n 6 6).symm, (zs_fld n 12 2).symm, rfl, rfl⟩))
theorem zs_dec_long (n : Nat) (h : 65549 < n) : DecIs (zs n) 0 0 0 ⟨#[]⟩ 4 := .inr (.inl ⟨by rw [zs_size]; exact h, rfl, rfl, rfl, rfl, rfl⟩)
theorem zs_dec_short (n : Nat) (h : n < 60) : DecIs (zs n) 0 0 0 ⟨#[]⟩ 10 := .inl ⟨by rw [zs_size]; exact h, rfl, rfl, rfl, rfl, rfl⟩
theorem grp_int (A : Nat) (hA : A < 18446744073709551616) : bits .and .u64 ((A : Int) / 1099511627776) 1 = (A : Int) / 1099511627776 % 2 ∧ ((A : Int) / 1099511627776 % 2 == 1) = grp A := by
  constructor
  · have e := and1 (A / 1099511627776) (by omega)
    rw [show ((A / 1099511627776 : Nat) : Int) = (A : Int) / 1099511627776 from by omega] at e
    rw [e]
    omega
  · unfold grp
    by_cases h : A / 1099511627776 % 2 = 1
    · rw [h, show (A : Int) / 1099511627776 % 2 = 1 from by omega]; rfl
    · rw [show A / 1099511627776 % 2 = 0 from by omega, show (A : Int) / 1099511627776 % 2 = 0 from by omega]; rfl

theorem etherEnds_walk (o x : Int) (ho : (Lit.int .i8 o).wf = true) (hx : (Lit.int .u64 x).wf = true) (w : World) :
    Calls Try.prog 7 #[.int .i8 o, .int .u64 x] w fun e w' => e = .returned (.bool true) ∧ Below w.heap.size w w' := by
  obtain ⟨a, rfl, ha⟩ := nat64 hx
  have hob := bounds_i8 ho
  have ho1 : -128 ≤ o := by omega
  have ho2 : o ≤ 127 := by omega
  obtain ⟨n, hn⟩ : ∃ n : Nat, 65535 + o = (n : Int) := ⟨(65535 + o).toNat, by omega⟩
  obtain ⟨m, hm⟩ : ∃ m : Nat, 65549 + o = (m : Int) := ⟨(65549 + o).toNat, by omega⟩
  obtain ⟨q, hq⟩ : ∃ q : Nat, max 0 (60 + o) = (q : Int) := ⟨(max 0 (60 + o)).toNat, by omega⟩
  have hmk1 := fun w => mkz n (by omega) w
  rw [← hn] at hmk1
  have hmk2 := fun w => mkz m (by omega) w
  rw [← hm] at hmk2
  have hmk3 := fun w => mkz q (by omega) w
  have ea := and48 a ha
  have lA : a % 281474976710656 < 281474976710656 := Nat.mod_lt _ (by omega)
  generalize a % 281474976710656 = A at *
  obtain ⟨hg1, hg2⟩ := grp_int A (by omega)
  have zn := zs_size n
  cases hg : grp A with
  | true =>
    rw [hg] at hg2
    have H1 := fun w => encode_any 1 A 0 (zs n) w (by decide) (by omega) (by decide) (by omega) (.inl ⟨.inr (.inr hg), rfl, rfl⟩)
    rcases (by omega : o < 0 ∨ o = 0 ∨ 0 < o) with h | h | h
    · exact ends_gn o a A n m q w ho1 ho2 _ hmk1 hmk2 hmk3 hq ea hg1 hg2 (decide_eq_true (by omega)) (decide_eq_false (by omega)) H1 0 0 0 _ (fun w => decode_any _ w (zs_dec m (by omega) (by omega))) 0 0 0 _ (fun w => decode_any _ w (zs_dec_short q (by omega)))
    · exact ends_gz o a A n m q w ho1 ho2 _ hmk1 hmk2 hmk3 hq ea hg1 hg2 (decide_eq_true (by omega)) (decide_eq_true (by omega)) H1 0 0 0 _ (fun w => decode_any _ w (zs_dec m (by omega) (by omega))) 0 0 0 _ (fun w => decode_any _ w (zs_dec q (by omega) (by omega)))
    · exact ends_gp o a A n m q w ho1 ho2 _ hmk1 hmk2 hmk3 hq ea hg1 hg2 (decide_eq_false (by omega)) (decide_eq_true (by omega)) H1 0 0 0 _ (fun w => decode_any _ w (zs_dec_long m (by omega))) 0 0 0 _ (fun w => decode_any _ w (zs_dec q (by omega) (by omega)))
  | false =>
    rw [hg] at hg2
    rcases (by omega : o < 0 ∨ o = 0 ∨ 0 < o) with h | h | h
    · have H1 := fun w => encode_any 1 A 0 (zs n) w (by decide) (by omega) (by decide) (by omega) (.inr (.inr ⟨⟨by decide, lA, hg, by omega⟩, rfl, rfl⟩))
      have hz := enc_size 1 A 0 (zs n)
      have hS : (((encB 1 A 0 (zs n)).size : Int) == 65535 + o + 14) = true := beq_iff_eq.2 (by omega)
      exact ends_fn o a A n m q w ho1 ho2 _ hmk1 hmk2 hmk3 hq ea hg1 hg2 (decide_eq_true (by omega)) (decide_eq_false (by omega)) hS H1 0 0 0 _ (fun w => decode_any _ w (zs_dec m (by omega) (by omega))) 0 0 0 _ (fun w => decode_any _ w (zs_dec_short q (by omega)))
    · have H1 := fun w => encode_any 1 A 0 (zs n) w (by decide) (by omega) (by decide) (by omega) (.inr (.inr ⟨⟨by decide, lA, hg, by omega⟩, rfl, rfl⟩))
      have hz := enc_size 1 A 0 (zs n)
      have hS : (((encB 1 A 0 (zs n)).size : Int) == 65535 + o + 14) = true := beq_iff_eq.2 (by omega)
      exact ends_fz o a A n m q w ho1 ho2 _ hmk1 hmk2 hmk3 hq ea hg1 hg2 (decide_eq_true (by omega)) (decide_eq_true (by omega)) hS H1 0 0 0 _ (fun w => decode_any _ w (zs_dec m (by omega) (by omega))) 0 0 0 _ (fun w => decode_any _ w (zs_dec q (by omega) (by omega)))
    · have H1 := fun w => encode_any 1 A 0 (zs n) w (by decide) (by omega) (by decide) (by omega) (.inr (.inl ⟨⟨by decide, lA, hg, by omega⟩, rfl, rfl⟩))
      exact ends_fp o a A n m q w ho1 ho2 _ hmk1 hmk2 hmk3 hq ea hg1 hg2 (decide_eq_false (by omega)) (decide_eq_true (by omega)) H1 0 0 0 _ (fun w => decode_any _ w (zs_dec_long m (by omega))) 0 0 0 _ (fun w => decode_any _ w (zs_dec q (by omega) (by omega)))

end Go.Proofs.Ytdgjoconppmihaa
