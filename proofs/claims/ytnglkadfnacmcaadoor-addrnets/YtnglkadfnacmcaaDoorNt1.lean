/- The walk of the law AddrNets, over the loaded program, by the answers of In: true; no memory that was there has turned. Condition: Env. -/
import Derived.Test.YtnglkadfnacmcaaDoorAl6
namespace Go.Proofs.YtnglkadfnacmcaaDoor
open Go.RowKit

set_option maxRecDepth 20000 in
set_option maxHeartbeats 1000000 in
theorem nets_s_ttttt (ip a b n m N M mx my : Nat) (c : Bool) (w : World) (E : Env w) (hn : n < 256) (hm : m < 256) (hN : (n : Int) % 33 = (N : Int)) (hM : (m : Int) % 33 = (M : Int)) (hlt : (M : Int) < (N : Int))
    (hc : ((ip : Int) == (a : Int)) = c) (hand : bits .and .u32 (my : Int) (mx : Int) = (mx : Int)) (heq : (((mx : Int) == (my : Int)) : Bool) = ((M : Int) == (N : Int)))
    (nx : Nat) (hxo : bits .xor .u32 IntKind.u32.max (mx : Int) = (nx : Int)) (hnot : bits .and .u32 (nx : Int) (((nx : Int) + 1) % 4294967296) = 0)
    (H1 : Hid (∀ w, Calls Tryd.prog 17 #[.int .u32 (ip : Int), .int .u32 (a : Int), .int .i64 (N : Int)] w fun e w' => e = .returned (.bool true) ∧ w' = w))
    (H2 : Hid (∀ w, Calls Tryd.prog 17 #[.int .u32 (ip : Int), .int .u32 (a : Int), .int .i64 (M : Int)] w fun e w' => e = .returned (.bool true) ∧ w' = w))
    (H3 : Hid (∀ w, Calls Tryd.prog 17 #[.int .u32 (ip : Int), .int .u32 (ip : Int), .int .i64 (N : Int)] w fun e w' => e = .returned (.bool true) ∧ w' = w))
    (H4 : Hid (∀ w, Calls Tryd.prog 17 #[.int .u32 (ip : Int), .int .u32 (a : Int), .int .i64 0] w fun e w' => e = .returned (.bool true) ∧ w' = w))
    (H5 : Hid (∀ w, Calls Tryd.prog 17 #[.int .u32 (ip : Int), .int .u32 (a : Int), .int .i64 32] w fun e w' => e = .returned (.bool c) ∧ w' = w))
    (H6 : Hid (∀ w, Calls Tryd.prog 15 #[.int .i64 (N : Int)] w fun e w' => e = .returned (.int .u32 (my : Int)) ∧ w' = w))
    (H7 : Hid (∀ w, Calls Tryd.prog 15 #[.int .i64 (M : Int)] w fun e w' => e = .returned (.int .u32 (mx : Int)) ∧ w' = w))
    (H8 : Hid (∀ w, Calls Tryd.prog 17 #[.int .u32 (a : Int), .int .u32 (b : Int), .int .i64 (M : Int)] w fun e w' => e = .returned (.bool true) ∧ w' = w))
    (H9 : Hid (∀ w, Calls Tryd.prog 17 #[.int .u32 (ip : Int), .int .u32 (b : Int), .int .i64 (N : Int)] w fun e w' => e = .returned (.bool true) ∧ w' = w))
    (H10 : Hid (∀ w, Calls Tryd.prog 17 #[.int .u32 (ip : Int), .int .u32 (b : Int), .int .i64 (M : Int)] w fun e w' => e = .returned (.bool true) ∧ w' = w))
    : Calls Tryd.prog 6 #[.int .u32 (ip : Int), .int .u32 (a : Int), .int .u32 (b : Int), .int .u8 (n : Int), .int .u8 (m : Int)] w fun e w' => e = .returned (.bool true) ∧ Below w.heap.size w w' := by
  have H11 := hide alive_any
  have hcc : (c == c) = true := by cases c <;> rfl
  generalize hxy : ((M : Int) == (N : Int)) = d at *
  have hdd : (d == d) = true := by cases d <;> rfl
  go_enter Tryd.func6, Tryd.ntmps6
  go_wp2_with fail
  refine (unhide H1 _).mono ?_
  rintro e w1 ⟨rfl, rfl⟩
  go_wp2_with fail
  refine (unhide H2 _).mono ?_
  rintro e w2 ⟨rfl, rfl⟩
  go_wp2_with fail
  refine (unhide H3 _).mono ?_
  rintro e w3 ⟨rfl, rfl⟩
  go_wp2_with fail
  refine (unhide H4 _).mono ?_
  rintro e w4 ⟨rfl, rfl⟩
  go_wp2_with fail
  refine (unhide H5 _).mono ?_
  rintro e w5 ⟨rfl, rfl⟩
  go_wp2_with fail
  refine (unhide H6 _).mono ?_
  rintro e w6 ⟨rfl, rfl⟩
  go_wp2_with fail
  refine (unhide H7 _).mono ?_
  rintro e w7 ⟨rfl, rfl⟩
  go_wp2_with fail
  refine (unhide H7 _).mono ?_
  rintro e w8 ⟨rfl, rfl⟩
  go_wp2_with fail
  refine (unhide H7 _).mono ?_
  rintro e w9 ⟨rfl, rfl⟩
  go_wp2_with fail
  refine (unhide H6 _).mono ?_
  rintro e w10 ⟨rfl, rfl⟩
  go_wp2_with fail
  refine (unhide H7 _).mono ?_
  rintro e w11 ⟨rfl, rfl⟩
  go_wp2_with fail
  refine (unhide H7 _).mono ?_
  rintro e w12 ⟨rfl, rfl⟩
  go_wp2_with fail
  refine (unhide H8 _).mono ?_
  rintro e w13 ⟨rfl, rfl⟩
  go_wp2_with fail
  refine (unhide H2 _).mono ?_
  rintro e w14 ⟨rfl, rfl⟩
  go_wp2_with fail
  refine (unhide H9 _).mono ?_
  rintro e w15 ⟨rfl, rfl⟩
  go_wp2_with fail
  refine (unhide H2 _).mono ?_
  rintro e w16 ⟨rfl, rfl⟩
  go_wp2_with fail
  refine (unhide H10 _).mono ?_
  rintro e w17 ⟨rfl, rfl⟩
  go_wp2_with fail
  refine (unhide H11 _ E).mono ?_
  rintro e v ⟨rfl, bv⟩
  go_wp2_with fail
  go_ret
  exact ⟨rfl, bv⟩

set_option maxRecDepth 20000 in
set_option maxHeartbeats 1000000 in
theorem nets_s_ttftt (ip a b n m N M mx my : Nat) (c : Bool) (w : World) (E : Env w) (hn : n < 256) (hm : m < 256) (hN : (n : Int) % 33 = (N : Int)) (hM : (m : Int) % 33 = (M : Int)) (hlt : (M : Int) < (N : Int))
    (hc : ((ip : Int) == (a : Int)) = c) (hand : bits .and .u32 (my : Int) (mx : Int) = (mx : Int)) (heq : (((mx : Int) == (my : Int)) : Bool) = ((M : Int) == (N : Int)))
    (nx : Nat) (hxo : bits .xor .u32 IntKind.u32.max (mx : Int) = (nx : Int)) (hnot : bits .and .u32 (nx : Int) (((nx : Int) + 1) % 4294967296) = 0)
    (H1 : Hid (∀ w, Calls Tryd.prog 17 #[.int .u32 (ip : Int), .int .u32 (a : Int), .int .i64 (N : Int)] w fun e w' => e = .returned (.bool true) ∧ w' = w))
    (H2 : Hid (∀ w, Calls Tryd.prog 17 #[.int .u32 (ip : Int), .int .u32 (a : Int), .int .i64 (M : Int)] w fun e w' => e = .returned (.bool true) ∧ w' = w))
    (H3 : Hid (∀ w, Calls Tryd.prog 17 #[.int .u32 (ip : Int), .int .u32 (ip : Int), .int .i64 (N : Int)] w fun e w' => e = .returned (.bool true) ∧ w' = w))
    (H4 : Hid (∀ w, Calls Tryd.prog 17 #[.int .u32 (ip : Int), .int .u32 (a : Int), .int .i64 0] w fun e w' => e = .returned (.bool true) ∧ w' = w))
    (H5 : Hid (∀ w, Calls Tryd.prog 17 #[.int .u32 (ip : Int), .int .u32 (a : Int), .int .i64 32] w fun e w' => e = .returned (.bool c) ∧ w' = w))
    (H6 : Hid (∀ w, Calls Tryd.prog 15 #[.int .i64 (N : Int)] w fun e w' => e = .returned (.int .u32 (my : Int)) ∧ w' = w))
    (H7 : Hid (∀ w, Calls Tryd.prog 15 #[.int .i64 (M : Int)] w fun e w' => e = .returned (.int .u32 (mx : Int)) ∧ w' = w))
    (H8 : Hid (∀ w, Calls Tryd.prog 17 #[.int .u32 (a : Int), .int .u32 (b : Int), .int .i64 (M : Int)] w fun e w' => e = .returned (.bool true) ∧ w' = w))
    (H9 : Hid (∀ w, Calls Tryd.prog 17 #[.int .u32 (ip : Int), .int .u32 (b : Int), .int .i64 (N : Int)] w fun e w' => e = .returned (.bool false) ∧ w' = w))
    (H10 : Hid (∀ w, Calls Tryd.prog 17 #[.int .u32 (ip : Int), .int .u32 (b : Int), .int .i64 (M : Int)] w fun e w' => e = .returned (.bool true) ∧ w' = w))
    : Calls Tryd.prog 6 #[.int .u32 (ip : Int), .int .u32 (a : Int), .int .u32 (b : Int), .int .u8 (n : Int), .int .u8 (m : Int)] w fun e w' => e = .returned (.bool true) ∧ Below w.heap.size w w' := by
  have H11 := hide alive_any
  have hcc : (c == c) = true := by cases c <;> rfl
  generalize hxy : ((M : Int) == (N : Int)) = d at *
  have hdd : (d == d) = true := by cases d <;> rfl
  go_enter Tryd.func6, Tryd.ntmps6
  go_wp2_with fail
  refine (unhide H1 _).mono ?_
  rintro e w1 ⟨rfl, rfl⟩
  go_wp2_with fail
  refine (unhide H2 _).mono ?_
  rintro e w2 ⟨rfl, rfl⟩
  go_wp2_with fail
  refine (unhide H3 _).mono ?_
  rintro e w3 ⟨rfl, rfl⟩
  go_wp2_with fail
  refine (unhide H4 _).mono ?_
  rintro e w4 ⟨rfl, rfl⟩
  go_wp2_with fail
  refine (unhide H5 _).mono ?_
  rintro e w5 ⟨rfl, rfl⟩
  go_wp2_with fail
  refine (unhide H6 _).mono ?_
  rintro e w6 ⟨rfl, rfl⟩
  go_wp2_with fail
  refine (unhide H7 _).mono ?_
  rintro e w7 ⟨rfl, rfl⟩
  go_wp2_with fail
  refine (unhide H7 _).mono ?_
  rintro e w8 ⟨rfl, rfl⟩
  go_wp2_with fail
  refine (unhide H7 _).mono ?_
  rintro e w9 ⟨rfl, rfl⟩
  go_wp2_with fail
  refine (unhide H6 _).mono ?_
  rintro e w10 ⟨rfl, rfl⟩
  go_wp2_with fail
  refine (unhide H7 _).mono ?_
  rintro e w11 ⟨rfl, rfl⟩
  go_wp2_with fail
  refine (unhide H7 _).mono ?_
  rintro e w12 ⟨rfl, rfl⟩
  go_wp2_with fail
  refine (unhide H8 _).mono ?_
  rintro e w13 ⟨rfl, rfl⟩
  go_wp2_with fail
  refine (unhide H2 _).mono ?_
  rintro e w14 ⟨rfl, rfl⟩
  go_wp2_with fail
  refine (unhide H9 _).mono ?_
  rintro e w15 ⟨rfl, rfl⟩
  go_wp2_with fail
  refine (unhide H2 _).mono ?_
  rintro e w16 ⟨rfl, rfl⟩
  go_wp2_with fail
  refine (unhide H10 _).mono ?_
  rintro e w17 ⟨rfl, rfl⟩
  go_wp2_with fail
  refine (unhide H11 _ E).mono ?_
  rintro e v ⟨rfl, bv⟩
  go_wp2_with fail
  go_ret
  exact ⟨rfl, bv⟩

set_option maxRecDepth 20000 in
set_option maxHeartbeats 1000000 in
theorem nets_s_ttfff (ip a b n m N M mx my : Nat) (c : Bool) (w : World) (E : Env w) (hn : n < 256) (hm : m < 256) (hN : (n : Int) % 33 = (N : Int)) (hM : (m : Int) % 33 = (M : Int)) (hlt : (M : Int) < (N : Int))
    (hc : ((ip : Int) == (a : Int)) = c) (hand : bits .and .u32 (my : Int) (mx : Int) = (mx : Int)) (heq : (((mx : Int) == (my : Int)) : Bool) = ((M : Int) == (N : Int)))
    (nx : Nat) (hxo : bits .xor .u32 IntKind.u32.max (mx : Int) = (nx : Int)) (hnot : bits .and .u32 (nx : Int) (((nx : Int) + 1) % 4294967296) = 0)
    (H1 : Hid (∀ w, Calls Tryd.prog 17 #[.int .u32 (ip : Int), .int .u32 (a : Int), .int .i64 (N : Int)] w fun e w' => e = .returned (.bool true) ∧ w' = w))
    (H2 : Hid (∀ w, Calls Tryd.prog 17 #[.int .u32 (ip : Int), .int .u32 (a : Int), .int .i64 (M : Int)] w fun e w' => e = .returned (.bool true) ∧ w' = w))
    (H3 : Hid (∀ w, Calls Tryd.prog 17 #[.int .u32 (ip : Int), .int .u32 (ip : Int), .int .i64 (N : Int)] w fun e w' => e = .returned (.bool true) ∧ w' = w))
    (H4 : Hid (∀ w, Calls Tryd.prog 17 #[.int .u32 (ip : Int), .int .u32 (a : Int), .int .i64 0] w fun e w' => e = .returned (.bool true) ∧ w' = w))
    (H5 : Hid (∀ w, Calls Tryd.prog 17 #[.int .u32 (ip : Int), .int .u32 (a : Int), .int .i64 32] w fun e w' => e = .returned (.bool c) ∧ w' = w))
    (H6 : Hid (∀ w, Calls Tryd.prog 15 #[.int .i64 (N : Int)] w fun e w' => e = .returned (.int .u32 (my : Int)) ∧ w' = w))
    (H7 : Hid (∀ w, Calls Tryd.prog 15 #[.int .i64 (M : Int)] w fun e w' => e = .returned (.int .u32 (mx : Int)) ∧ w' = w))
    (H8 : Hid (∀ w, Calls Tryd.prog 17 #[.int .u32 (a : Int), .int .u32 (b : Int), .int .i64 (M : Int)] w fun e w' => e = .returned (.bool false) ∧ w' = w))
    (H9 : Hid (∀ w, Calls Tryd.prog 17 #[.int .u32 (ip : Int), .int .u32 (b : Int), .int .i64 (N : Int)] w fun e w' => e = .returned (.bool false) ∧ w' = w))
    : Calls Tryd.prog 6 #[.int .u32 (ip : Int), .int .u32 (a : Int), .int .u32 (b : Int), .int .u8 (n : Int), .int .u8 (m : Int)] w fun e w' => e = .returned (.bool true) ∧ Below w.heap.size w w' := by
  have H11 := hide alive_any
  have hcc : (c == c) = true := by cases c <;> rfl
  generalize hxy : ((M : Int) == (N : Int)) = d at *
  have hdd : (d == d) = true := by cases d <;> rfl
  go_enter Tryd.func6, Tryd.ntmps6
  go_wp2_with fail
  refine (unhide H1 _).mono ?_
  rintro e w1 ⟨rfl, rfl⟩
  go_wp2_with fail
  refine (unhide H2 _).mono ?_
  rintro e w2 ⟨rfl, rfl⟩
  go_wp2_with fail
  refine (unhide H3 _).mono ?_
  rintro e w3 ⟨rfl, rfl⟩
  go_wp2_with fail
  refine (unhide H4 _).mono ?_
  rintro e w4 ⟨rfl, rfl⟩
  go_wp2_with fail
  refine (unhide H5 _).mono ?_
  rintro e w5 ⟨rfl, rfl⟩
  go_wp2_with fail
  refine (unhide H6 _).mono ?_
  rintro e w6 ⟨rfl, rfl⟩
  go_wp2_with fail
  refine (unhide H7 _).mono ?_
  rintro e w7 ⟨rfl, rfl⟩
  go_wp2_with fail
  refine (unhide H7 _).mono ?_
  rintro e w8 ⟨rfl, rfl⟩
  go_wp2_with fail
  refine (unhide H7 _).mono ?_
  rintro e w9 ⟨rfl, rfl⟩
  go_wp2_with fail
  refine (unhide H6 _).mono ?_
  rintro e w10 ⟨rfl, rfl⟩
  go_wp2_with fail
  refine (unhide H7 _).mono ?_
  rintro e w11 ⟨rfl, rfl⟩
  go_wp2_with fail
  refine (unhide H7 _).mono ?_
  rintro e w12 ⟨rfl, rfl⟩
  go_wp2_with fail
  refine (unhide H8 _).mono ?_
  rintro e w13 ⟨rfl, rfl⟩
  go_wp2_with fail
  refine (unhide H2 _).mono ?_
  rintro e w14 ⟨rfl, rfl⟩
  go_wp2_with fail
  refine (unhide H9 _).mono ?_
  rintro e w15 ⟨rfl, rfl⟩
  go_wp2_with fail
  refine (unhide H11 _ E).mono ?_
  rintro e v ⟨rfl, bv⟩
  go_wp2_with fail
  go_ret
  exact ⟨rfl, bv⟩

set_option maxRecDepth 20000 in
set_option maxHeartbeats 1000000 in
theorem nets_s_ftttt (ip a b n m N M mx my : Nat) (c : Bool) (w : World) (E : Env w) (hn : n < 256) (hm : m < 256) (hN : (n : Int) % 33 = (N : Int)) (hM : (m : Int) % 33 = (M : Int)) (hlt : (M : Int) < (N : Int))
    (hc : ((ip : Int) == (a : Int)) = c) (hand : bits .and .u32 (my : Int) (mx : Int) = (mx : Int)) (heq : (((mx : Int) == (my : Int)) : Bool) = ((M : Int) == (N : Int)))
    (nx : Nat) (hxo : bits .xor .u32 IntKind.u32.max (mx : Int) = (nx : Int)) (hnot : bits .and .u32 (nx : Int) (((nx : Int) + 1) % 4294967296) = 0)
    (H1 : Hid (∀ w, Calls Tryd.prog 17 #[.int .u32 (ip : Int), .int .u32 (a : Int), .int .i64 (N : Int)] w fun e w' => e = .returned (.bool false) ∧ w' = w))
    (H2 : Hid (∀ w, Calls Tryd.prog 17 #[.int .u32 (ip : Int), .int .u32 (a : Int), .int .i64 (M : Int)] w fun e w' => e = .returned (.bool true) ∧ w' = w))
    (H3 : Hid (∀ w, Calls Tryd.prog 17 #[.int .u32 (ip : Int), .int .u32 (ip : Int), .int .i64 (N : Int)] w fun e w' => e = .returned (.bool true) ∧ w' = w))
    (H4 : Hid (∀ w, Calls Tryd.prog 17 #[.int .u32 (ip : Int), .int .u32 (a : Int), .int .i64 0] w fun e w' => e = .returned (.bool true) ∧ w' = w))
    (H5 : Hid (∀ w, Calls Tryd.prog 17 #[.int .u32 (ip : Int), .int .u32 (a : Int), .int .i64 32] w fun e w' => e = .returned (.bool c) ∧ w' = w))
    (H6 : Hid (∀ w, Calls Tryd.prog 15 #[.int .i64 (N : Int)] w fun e w' => e = .returned (.int .u32 (my : Int)) ∧ w' = w))
    (H7 : Hid (∀ w, Calls Tryd.prog 15 #[.int .i64 (M : Int)] w fun e w' => e = .returned (.int .u32 (mx : Int)) ∧ w' = w))
    (H8 : Hid (∀ w, Calls Tryd.prog 17 #[.int .u32 (a : Int), .int .u32 (b : Int), .int .i64 (M : Int)] w fun e w' => e = .returned (.bool true) ∧ w' = w))
    (H9 : Hid (∀ w, Calls Tryd.prog 17 #[.int .u32 (ip : Int), .int .u32 (b : Int), .int .i64 (N : Int)] w fun e w' => e = .returned (.bool true) ∧ w' = w))
    (H10 : Hid (∀ w, Calls Tryd.prog 17 #[.int .u32 (ip : Int), .int .u32 (b : Int), .int .i64 (M : Int)] w fun e w' => e = .returned (.bool true) ∧ w' = w))
    : Calls Tryd.prog 6 #[.int .u32 (ip : Int), .int .u32 (a : Int), .int .u32 (b : Int), .int .u8 (n : Int), .int .u8 (m : Int)] w fun e w' => e = .returned (.bool true) ∧ Below w.heap.size w w' := by
  have H11 := hide alive_any
  have hcc : (c == c) = true := by cases c <;> rfl
  generalize hxy : ((M : Int) == (N : Int)) = d at *
  have hdd : (d == d) = true := by cases d <;> rfl
  go_enter Tryd.func6, Tryd.ntmps6
  go_wp2_with fail
  refine (unhide H1 _).mono ?_
  rintro e w1 ⟨rfl, rfl⟩
  go_wp2_with fail
  refine (unhide H3 _).mono ?_
  rintro e w2 ⟨rfl, rfl⟩
  go_wp2_with fail
  refine (unhide H4 _).mono ?_
  rintro e w3 ⟨rfl, rfl⟩
  go_wp2_with fail
  refine (unhide H5 _).mono ?_
  rintro e w4 ⟨rfl, rfl⟩
  go_wp2_with fail
  refine (unhide H6 _).mono ?_
  rintro e w5 ⟨rfl, rfl⟩
  go_wp2_with fail
  refine (unhide H7 _).mono ?_
  rintro e w6 ⟨rfl, rfl⟩
  go_wp2_with fail
  refine (unhide H7 _).mono ?_
  rintro e w7 ⟨rfl, rfl⟩
  go_wp2_with fail
  refine (unhide H7 _).mono ?_
  rintro e w8 ⟨rfl, rfl⟩
  go_wp2_with fail
  refine (unhide H6 _).mono ?_
  rintro e w9 ⟨rfl, rfl⟩
  go_wp2_with fail
  refine (unhide H7 _).mono ?_
  rintro e w10 ⟨rfl, rfl⟩
  go_wp2_with fail
  refine (unhide H7 _).mono ?_
  rintro e w11 ⟨rfl, rfl⟩
  go_wp2_with fail
  refine (unhide H8 _).mono ?_
  rintro e w12 ⟨rfl, rfl⟩
  go_wp2_with fail
  refine (unhide H2 _).mono ?_
  rintro e w13 ⟨rfl, rfl⟩
  go_wp2_with fail
  refine (unhide H9 _).mono ?_
  rintro e w14 ⟨rfl, rfl⟩
  go_wp2_with fail
  refine (unhide H2 _).mono ?_
  rintro e w15 ⟨rfl, rfl⟩
  go_wp2_with fail
  refine (unhide H10 _).mono ?_
  rintro e w16 ⟨rfl, rfl⟩
  go_wp2_with fail
  refine (unhide H11 _ E).mono ?_
  rintro e v ⟨rfl, bv⟩
  go_wp2_with fail
  go_ret
  exact ⟨rfl, bv⟩

set_option maxRecDepth 20000 in
set_option maxHeartbeats 1000000 in
theorem nets_s_ftftt (ip a b n m N M mx my : Nat) (c : Bool) (w : World) (E : Env w) (hn : n < 256) (hm : m < 256) (hN : (n : Int) % 33 = (N : Int)) (hM : (m : Int) % 33 = (M : Int)) (hlt : (M : Int) < (N : Int))
    (hc : ((ip : Int) == (a : Int)) = c) (hand : bits .and .u32 (my : Int) (mx : Int) = (mx : Int)) (heq : (((mx : Int) == (my : Int)) : Bool) = ((M : Int) == (N : Int)))
    (nx : Nat) (hxo : bits .xor .u32 IntKind.u32.max (mx : Int) = (nx : Int)) (hnot : bits .and .u32 (nx : Int) (((nx : Int) + 1) % 4294967296) = 0)
    (H1 : Hid (∀ w, Calls Tryd.prog 17 #[.int .u32 (ip : Int), .int .u32 (a : Int), .int .i64 (N : Int)] w fun e w' => e = .returned (.bool false) ∧ w' = w))
    (H2 : Hid (∀ w, Calls Tryd.prog 17 #[.int .u32 (ip : Int), .int .u32 (a : Int), .int .i64 (M : Int)] w fun e w' => e = .returned (.bool true) ∧ w' = w))
    (H3 : Hid (∀ w, Calls Tryd.prog 17 #[.int .u32 (ip : Int), .int .u32 (ip : Int), .int .i64 (N : Int)] w fun e w' => e = .returned (.bool true) ∧ w' = w))
    (H4 : Hid (∀ w, Calls Tryd.prog 17 #[.int .u32 (ip : Int), .int .u32 (a : Int), .int .i64 0] w fun e w' => e = .returned (.bool true) ∧ w' = w))
    (H5 : Hid (∀ w, Calls Tryd.prog 17 #[.int .u32 (ip : Int), .int .u32 (a : Int), .int .i64 32] w fun e w' => e = .returned (.bool c) ∧ w' = w))
    (H6 : Hid (∀ w, Calls Tryd.prog 15 #[.int .i64 (N : Int)] w fun e w' => e = .returned (.int .u32 (my : Int)) ∧ w' = w))
    (H7 : Hid (∀ w, Calls Tryd.prog 15 #[.int .i64 (M : Int)] w fun e w' => e = .returned (.int .u32 (mx : Int)) ∧ w' = w))
    (H8 : Hid (∀ w, Calls Tryd.prog 17 #[.int .u32 (a : Int), .int .u32 (b : Int), .int .i64 (M : Int)] w fun e w' => e = .returned (.bool true) ∧ w' = w))
    (H9 : Hid (∀ w, Calls Tryd.prog 17 #[.int .u32 (ip : Int), .int .u32 (b : Int), .int .i64 (N : Int)] w fun e w' => e = .returned (.bool false) ∧ w' = w))
    (H10 : Hid (∀ w, Calls Tryd.prog 17 #[.int .u32 (ip : Int), .int .u32 (b : Int), .int .i64 (M : Int)] w fun e w' => e = .returned (.bool true) ∧ w' = w))
    : Calls Tryd.prog 6 #[.int .u32 (ip : Int), .int .u32 (a : Int), .int .u32 (b : Int), .int .u8 (n : Int), .int .u8 (m : Int)] w fun e w' => e = .returned (.bool true) ∧ Below w.heap.size w w' := by
  have H11 := hide alive_any
  have hcc : (c == c) = true := by cases c <;> rfl
  generalize hxy : ((M : Int) == (N : Int)) = d at *
  have hdd : (d == d) = true := by cases d <;> rfl
  go_enter Tryd.func6, Tryd.ntmps6
  go_wp2_with fail
  refine (unhide H1 _).mono ?_
  rintro e w1 ⟨rfl, rfl⟩
  go_wp2_with fail
  refine (unhide H3 _).mono ?_
  rintro e w2 ⟨rfl, rfl⟩
  go_wp2_with fail
  refine (unhide H4 _).mono ?_
  rintro e w3 ⟨rfl, rfl⟩
  go_wp2_with fail
  refine (unhide H5 _).mono ?_
  rintro e w4 ⟨rfl, rfl⟩
  go_wp2_with fail
  refine (unhide H6 _).mono ?_
  rintro e w5 ⟨rfl, rfl⟩
  go_wp2_with fail
  refine (unhide H7 _).mono ?_
  rintro e w6 ⟨rfl, rfl⟩
  go_wp2_with fail
  refine (unhide H7 _).mono ?_
  rintro e w7 ⟨rfl, rfl⟩
  go_wp2_with fail
  refine (unhide H7 _).mono ?_
  rintro e w8 ⟨rfl, rfl⟩
  go_wp2_with fail
  refine (unhide H6 _).mono ?_
  rintro e w9 ⟨rfl, rfl⟩
  go_wp2_with fail
  refine (unhide H7 _).mono ?_
  rintro e w10 ⟨rfl, rfl⟩
  go_wp2_with fail
  refine (unhide H7 _).mono ?_
  rintro e w11 ⟨rfl, rfl⟩
  go_wp2_with fail
  refine (unhide H8 _).mono ?_
  rintro e w12 ⟨rfl, rfl⟩
  go_wp2_with fail
  refine (unhide H2 _).mono ?_
  rintro e w13 ⟨rfl, rfl⟩
  go_wp2_with fail
  refine (unhide H9 _).mono ?_
  rintro e w14 ⟨rfl, rfl⟩
  go_wp2_with fail
  refine (unhide H2 _).mono ?_
  rintro e w15 ⟨rfl, rfl⟩
  go_wp2_with fail
  refine (unhide H10 _).mono ?_
  rintro e w16 ⟨rfl, rfl⟩
  go_wp2_with fail
  refine (unhide H11 _ E).mono ?_
  rintro e v ⟨rfl, bv⟩
  go_wp2_with fail
  go_ret
  exact ⟨rfl, bv⟩

set_option maxRecDepth 20000 in
set_option maxHeartbeats 1000000 in
theorem nets_s_ftfff (ip a b n m N M mx my : Nat) (c : Bool) (w : World) (E : Env w) (hn : n < 256) (hm : m < 256) (hN : (n : Int) % 33 = (N : Int)) (hM : (m : Int) % 33 = (M : Int)) (hlt : (M : Int) < (N : Int))
    (hc : ((ip : Int) == (a : Int)) = c) (hand : bits .and .u32 (my : Int) (mx : Int) = (mx : Int)) (heq : (((mx : Int) == (my : Int)) : Bool) = ((M : Int) == (N : Int)))
    (nx : Nat) (hxo : bits .xor .u32 IntKind.u32.max (mx : Int) = (nx : Int)) (hnot : bits .and .u32 (nx : Int) (((nx : Int) + 1) % 4294967296) = 0)
    (H1 : Hid (∀ w, Calls Tryd.prog 17 #[.int .u32 (ip : Int), .int .u32 (a : Int), .int .i64 (N : Int)] w fun e w' => e = .returned (.bool false) ∧ w' = w))
    (H2 : Hid (∀ w, Calls Tryd.prog 17 #[.int .u32 (ip : Int), .int .u32 (a : Int), .int .i64 (M : Int)] w fun e w' => e = .returned (.bool true) ∧ w' = w))
    (H3 : Hid (∀ w, Calls Tryd.prog 17 #[.int .u32 (ip : Int), .int .u32 (ip : Int), .int .i64 (N : Int)] w fun e w' => e = .returned (.bool true) ∧ w' = w))
    (H4 : Hid (∀ w, Calls Tryd.prog 17 #[.int .u32 (ip : Int), .int .u32 (a : Int), .int .i64 0] w fun e w' => e = .returned (.bool true) ∧ w' = w))
    (H5 : Hid (∀ w, Calls Tryd.prog 17 #[.int .u32 (ip : Int), .int .u32 (a : Int), .int .i64 32] w fun e w' => e = .returned (.bool c) ∧ w' = w))
    (H6 : Hid (∀ w, Calls Tryd.prog 15 #[.int .i64 (N : Int)] w fun e w' => e = .returned (.int .u32 (my : Int)) ∧ w' = w))
    (H7 : Hid (∀ w, Calls Tryd.prog 15 #[.int .i64 (M : Int)] w fun e w' => e = .returned (.int .u32 (mx : Int)) ∧ w' = w))
    (H8 : Hid (∀ w, Calls Tryd.prog 17 #[.int .u32 (a : Int), .int .u32 (b : Int), .int .i64 (M : Int)] w fun e w' => e = .returned (.bool false) ∧ w' = w))
    (H9 : Hid (∀ w, Calls Tryd.prog 17 #[.int .u32 (ip : Int), .int .u32 (b : Int), .int .i64 (N : Int)] w fun e w' => e = .returned (.bool false) ∧ w' = w))
    : Calls Tryd.prog 6 #[.int .u32 (ip : Int), .int .u32 (a : Int), .int .u32 (b : Int), .int .u8 (n : Int), .int .u8 (m : Int)] w fun e w' => e = .returned (.bool true) ∧ Below w.heap.size w w' := by
  have H11 := hide alive_any
  have hcc : (c == c) = true := by cases c <;> rfl
  generalize hxy : ((M : Int) == (N : Int)) = d at *
  have hdd : (d == d) = true := by cases d <;> rfl
  go_enter Tryd.func6, Tryd.ntmps6
  go_wp2_with fail
  refine (unhide H1 _).mono ?_
  rintro e w1 ⟨rfl, rfl⟩
  go_wp2_with fail
  refine (unhide H3 _).mono ?_
  rintro e w2 ⟨rfl, rfl⟩
  go_wp2_with fail
  refine (unhide H4 _).mono ?_
  rintro e w3 ⟨rfl, rfl⟩
  go_wp2_with fail
  refine (unhide H5 _).mono ?_
  rintro e w4 ⟨rfl, rfl⟩
  go_wp2_with fail
  refine (unhide H6 _).mono ?_
  rintro e w5 ⟨rfl, rfl⟩
  go_wp2_with fail
  refine (unhide H7 _).mono ?_
  rintro e w6 ⟨rfl, rfl⟩
  go_wp2_with fail
  refine (unhide H7 _).mono ?_
  rintro e w7 ⟨rfl, rfl⟩
  go_wp2_with fail
  refine (unhide H7 _).mono ?_
  rintro e w8 ⟨rfl, rfl⟩
  go_wp2_with fail
  refine (unhide H6 _).mono ?_
  rintro e w9 ⟨rfl, rfl⟩
  go_wp2_with fail
  refine (unhide H7 _).mono ?_
  rintro e w10 ⟨rfl, rfl⟩
  go_wp2_with fail
  refine (unhide H7 _).mono ?_
  rintro e w11 ⟨rfl, rfl⟩
  go_wp2_with fail
  refine (unhide H8 _).mono ?_
  rintro e w12 ⟨rfl, rfl⟩
  go_wp2_with fail
  refine (unhide H2 _).mono ?_
  rintro e w13 ⟨rfl, rfl⟩
  go_wp2_with fail
  refine (unhide H9 _).mono ?_
  rintro e w14 ⟨rfl, rfl⟩
  go_wp2_with fail
  refine (unhide H11 _ E).mono ?_
  rintro e v ⟨rfl, bv⟩
  go_wp2_with fail
  go_ret
  exact ⟨rfl, bv⟩

set_option maxRecDepth 20000 in
set_option maxHeartbeats 1000000 in
theorem nets_s_ffttf (ip a b n m N M mx my : Nat) (c : Bool) (w : World) (E : Env w) (hn : n < 256) (hm : m < 256) (hN : (n : Int) % 33 = (N : Int)) (hM : (m : Int) % 33 = (M : Int)) (hlt : (M : Int) < (N : Int))
    (hc : ((ip : Int) == (a : Int)) = c) (hand : bits .and .u32 (my : Int) (mx : Int) = (mx : Int)) (heq : (((mx : Int) == (my : Int)) : Bool) = ((M : Int) == (N : Int)))
    (nx : Nat) (hxo : bits .xor .u32 IntKind.u32.max (mx : Int) = (nx : Int)) (hnot : bits .and .u32 (nx : Int) (((nx : Int) + 1) % 4294967296) = 0)
    (H1 : Hid (∀ w, Calls Tryd.prog 17 #[.int .u32 (ip : Int), .int .u32 (a : Int), .int .i64 (N : Int)] w fun e w' => e = .returned (.bool false) ∧ w' = w))
    (H2 : Hid (∀ w, Calls Tryd.prog 17 #[.int .u32 (ip : Int), .int .u32 (a : Int), .int .i64 (M : Int)] w fun e w' => e = .returned (.bool false) ∧ w' = w))
    (H3 : Hid (∀ w, Calls Tryd.prog 17 #[.int .u32 (ip : Int), .int .u32 (ip : Int), .int .i64 (N : Int)] w fun e w' => e = .returned (.bool true) ∧ w' = w))
    (H4 : Hid (∀ w, Calls Tryd.prog 17 #[.int .u32 (ip : Int), .int .u32 (a : Int), .int .i64 0] w fun e w' => e = .returned (.bool true) ∧ w' = w))
    (H5 : Hid (∀ w, Calls Tryd.prog 17 #[.int .u32 (ip : Int), .int .u32 (a : Int), .int .i64 32] w fun e w' => e = .returned (.bool c) ∧ w' = w))
    (H6 : Hid (∀ w, Calls Tryd.prog 15 #[.int .i64 (N : Int)] w fun e w' => e = .returned (.int .u32 (my : Int)) ∧ w' = w))
    (H7 : Hid (∀ w, Calls Tryd.prog 15 #[.int .i64 (M : Int)] w fun e w' => e = .returned (.int .u32 (mx : Int)) ∧ w' = w))
    (H8 : Hid (∀ w, Calls Tryd.prog 17 #[.int .u32 (a : Int), .int .u32 (b : Int), .int .i64 (M : Int)] w fun e w' => e = .returned (.bool false) ∧ w' = w))
    : Calls Tryd.prog 6 #[.int .u32 (ip : Int), .int .u32 (a : Int), .int .u32 (b : Int), .int .u8 (n : Int), .int .u8 (m : Int)] w fun e w' => e = .returned (.bool true) ∧ Below w.heap.size w w' := by
  have H11 := hide alive_any
  have hcc : (c == c) = true := by cases c <;> rfl
  generalize hxy : ((M : Int) == (N : Int)) = d at *
  have hdd : (d == d) = true := by cases d <;> rfl
  go_enter Tryd.func6, Tryd.ntmps6
  go_wp2_with fail
  refine (unhide H1 _).mono ?_
  rintro e w1 ⟨rfl, rfl⟩
  go_wp2_with fail
  refine (unhide H3 _).mono ?_
  rintro e w2 ⟨rfl, rfl⟩
  go_wp2_with fail
  refine (unhide H4 _).mono ?_
  rintro e w3 ⟨rfl, rfl⟩
  go_wp2_with fail
  refine (unhide H5 _).mono ?_
  rintro e w4 ⟨rfl, rfl⟩
  go_wp2_with fail
  refine (unhide H6 _).mono ?_
  rintro e w5 ⟨rfl, rfl⟩
  go_wp2_with fail
  refine (unhide H7 _).mono ?_
  rintro e w6 ⟨rfl, rfl⟩
  go_wp2_with fail
  refine (unhide H7 _).mono ?_
  rintro e w7 ⟨rfl, rfl⟩
  go_wp2_with fail
  refine (unhide H7 _).mono ?_
  rintro e w8 ⟨rfl, rfl⟩
  go_wp2_with fail
  refine (unhide H6 _).mono ?_
  rintro e w9 ⟨rfl, rfl⟩
  go_wp2_with fail
  refine (unhide H7 _).mono ?_
  rintro e w10 ⟨rfl, rfl⟩
  go_wp2_with fail
  refine (unhide H7 _).mono ?_
  rintro e w11 ⟨rfl, rfl⟩
  go_wp2_with fail
  refine (unhide H8 _).mono ?_
  rintro e w12 ⟨rfl, rfl⟩
  go_wp2_with fail
  refine (unhide H2 _).mono ?_
  rintro e w13 ⟨rfl, rfl⟩
  go_wp2_with fail
  refine (unhide H11 _ E).mono ?_
  rintro e v ⟨rfl, bv⟩
  go_wp2_with fail
  go_ret
  exact ⟨rfl, bv⟩

set_option maxRecDepth 20000 in
set_option maxHeartbeats 1000000 in
theorem nets_s_ffftf (ip a b n m N M mx my : Nat) (c : Bool) (w : World) (E : Env w) (hn : n < 256) (hm : m < 256) (hN : (n : Int) % 33 = (N : Int)) (hM : (m : Int) % 33 = (M : Int)) (hlt : (M : Int) < (N : Int))
    (hc : ((ip : Int) == (a : Int)) = c) (hand : bits .and .u32 (my : Int) (mx : Int) = (mx : Int)) (heq : (((mx : Int) == (my : Int)) : Bool) = ((M : Int) == (N : Int)))
    (nx : Nat) (hxo : bits .xor .u32 IntKind.u32.max (mx : Int) = (nx : Int)) (hnot : bits .and .u32 (nx : Int) (((nx : Int) + 1) % 4294967296) = 0)
    (H1 : Hid (∀ w, Calls Tryd.prog 17 #[.int .u32 (ip : Int), .int .u32 (a : Int), .int .i64 (N : Int)] w fun e w' => e = .returned (.bool false) ∧ w' = w))
    (H2 : Hid (∀ w, Calls Tryd.prog 17 #[.int .u32 (ip : Int), .int .u32 (a : Int), .int .i64 (M : Int)] w fun e w' => e = .returned (.bool false) ∧ w' = w))
    (H3 : Hid (∀ w, Calls Tryd.prog 17 #[.int .u32 (ip : Int), .int .u32 (ip : Int), .int .i64 (N : Int)] w fun e w' => e = .returned (.bool true) ∧ w' = w))
    (H4 : Hid (∀ w, Calls Tryd.prog 17 #[.int .u32 (ip : Int), .int .u32 (a : Int), .int .i64 0] w fun e w' => e = .returned (.bool true) ∧ w' = w))
    (H5 : Hid (∀ w, Calls Tryd.prog 17 #[.int .u32 (ip : Int), .int .u32 (a : Int), .int .i64 32] w fun e w' => e = .returned (.bool c) ∧ w' = w))
    (H6 : Hid (∀ w, Calls Tryd.prog 15 #[.int .i64 (N : Int)] w fun e w' => e = .returned (.int .u32 (my : Int)) ∧ w' = w))
    (H7 : Hid (∀ w, Calls Tryd.prog 15 #[.int .i64 (M : Int)] w fun e w' => e = .returned (.int .u32 (mx : Int)) ∧ w' = w))
    (H8 : Hid (∀ w, Calls Tryd.prog 17 #[.int .u32 (a : Int), .int .u32 (b : Int), .int .i64 (M : Int)] w fun e w' => e = .returned (.bool false) ∧ w' = w))
    : Calls Tryd.prog 6 #[.int .u32 (ip : Int), .int .u32 (a : Int), .int .u32 (b : Int), .int .u8 (n : Int), .int .u8 (m : Int)] w fun e w' => e = .returned (.bool true) ∧ Below w.heap.size w w' := by
  have H11 := hide alive_any
  have hcc : (c == c) = true := by cases c <;> rfl
  generalize hxy : ((M : Int) == (N : Int)) = d at *
  have hdd : (d == d) = true := by cases d <;> rfl
  go_enter Tryd.func6, Tryd.ntmps6
  go_wp2_with fail
  refine (unhide H1 _).mono ?_
  rintro e w1 ⟨rfl, rfl⟩
  go_wp2_with fail
  refine (unhide H3 _).mono ?_
  rintro e w2 ⟨rfl, rfl⟩
  go_wp2_with fail
  refine (unhide H4 _).mono ?_
  rintro e w3 ⟨rfl, rfl⟩
  go_wp2_with fail
  refine (unhide H5 _).mono ?_
  rintro e w4 ⟨rfl, rfl⟩
  go_wp2_with fail
  refine (unhide H6 _).mono ?_
  rintro e w5 ⟨rfl, rfl⟩
  go_wp2_with fail
  refine (unhide H7 _).mono ?_
  rintro e w6 ⟨rfl, rfl⟩
  go_wp2_with fail
  refine (unhide H7 _).mono ?_
  rintro e w7 ⟨rfl, rfl⟩
  go_wp2_with fail
  refine (unhide H7 _).mono ?_
  rintro e w8 ⟨rfl, rfl⟩
  go_wp2_with fail
  refine (unhide H6 _).mono ?_
  rintro e w9 ⟨rfl, rfl⟩
  go_wp2_with fail
  refine (unhide H7 _).mono ?_
  rintro e w10 ⟨rfl, rfl⟩
  go_wp2_with fail
  refine (unhide H7 _).mono ?_
  rintro e w11 ⟨rfl, rfl⟩
  go_wp2_with fail
  refine (unhide H8 _).mono ?_
  rintro e w12 ⟨rfl, rfl⟩
  go_wp2_with fail
  refine (unhide H2 _).mono ?_
  rintro e w13 ⟨rfl, rfl⟩
  go_wp2_with fail
  refine (unhide H11 _ E).mono ?_
  rintro e v ⟨rfl, bv⟩
  go_wp2_with fail
  go_ret
  exact ⟨rfl, bv⟩

set_option maxRecDepth 20000 in
set_option maxHeartbeats 1000000 in
theorem nets_s_fffft (ip a b n m N M mx my : Nat) (c : Bool) (w : World) (E : Env w) (hn : n < 256) (hm : m < 256) (hN : (n : Int) % 33 = (N : Int)) (hM : (m : Int) % 33 = (M : Int)) (hlt : (M : Int) < (N : Int))
    (hc : ((ip : Int) == (a : Int)) = c) (hand : bits .and .u32 (my : Int) (mx : Int) = (mx : Int)) (heq : (((mx : Int) == (my : Int)) : Bool) = ((M : Int) == (N : Int)))
    (nx : Nat) (hxo : bits .xor .u32 IntKind.u32.max (mx : Int) = (nx : Int)) (hnot : bits .and .u32 (nx : Int) (((nx : Int) + 1) % 4294967296) = 0)
    (H1 : Hid (∀ w, Calls Tryd.prog 17 #[.int .u32 (ip : Int), .int .u32 (a : Int), .int .i64 (N : Int)] w fun e w' => e = .returned (.bool false) ∧ w' = w))
    (H2 : Hid (∀ w, Calls Tryd.prog 17 #[.int .u32 (ip : Int), .int .u32 (a : Int), .int .i64 (M : Int)] w fun e w' => e = .returned (.bool false) ∧ w' = w))
    (H3 : Hid (∀ w, Calls Tryd.prog 17 #[.int .u32 (ip : Int), .int .u32 (ip : Int), .int .i64 (N : Int)] w fun e w' => e = .returned (.bool true) ∧ w' = w))
    (H4 : Hid (∀ w, Calls Tryd.prog 17 #[.int .u32 (ip : Int), .int .u32 (a : Int), .int .i64 0] w fun e w' => e = .returned (.bool true) ∧ w' = w))
    (H5 : Hid (∀ w, Calls Tryd.prog 17 #[.int .u32 (ip : Int), .int .u32 (a : Int), .int .i64 32] w fun e w' => e = .returned (.bool c) ∧ w' = w))
    (H6 : Hid (∀ w, Calls Tryd.prog 15 #[.int .i64 (N : Int)] w fun e w' => e = .returned (.int .u32 (my : Int)) ∧ w' = w))
    (H7 : Hid (∀ w, Calls Tryd.prog 15 #[.int .i64 (M : Int)] w fun e w' => e = .returned (.int .u32 (mx : Int)) ∧ w' = w))
    (H8 : Hid (∀ w, Calls Tryd.prog 17 #[.int .u32 (a : Int), .int .u32 (b : Int), .int .i64 (M : Int)] w fun e w' => e = .returned (.bool true) ∧ w' = w))
    (H10 : Hid (∀ w, Calls Tryd.prog 17 #[.int .u32 (ip : Int), .int .u32 (b : Int), .int .i64 (M : Int)] w fun e w' => e = .returned (.bool false) ∧ w' = w))
    : Calls Tryd.prog 6 #[.int .u32 (ip : Int), .int .u32 (a : Int), .int .u32 (b : Int), .int .u8 (n : Int), .int .u8 (m : Int)] w fun e w' => e = .returned (.bool true) ∧ Below w.heap.size w w' := by
  have H11 := hide alive_any
  have hcc : (c == c) = true := by cases c <;> rfl
  generalize hxy : ((M : Int) == (N : Int)) = d at *
  have hdd : (d == d) = true := by cases d <;> rfl
  go_enter Tryd.func6, Tryd.ntmps6
  go_wp2_with fail
  refine (unhide H1 _).mono ?_
  rintro e w1 ⟨rfl, rfl⟩
  go_wp2_with fail
  refine (unhide H3 _).mono ?_
  rintro e w2 ⟨rfl, rfl⟩
  go_wp2_with fail
  refine (unhide H4 _).mono ?_
  rintro e w3 ⟨rfl, rfl⟩
  go_wp2_with fail
  refine (unhide H5 _).mono ?_
  rintro e w4 ⟨rfl, rfl⟩
  go_wp2_with fail
  refine (unhide H6 _).mono ?_
  rintro e w5 ⟨rfl, rfl⟩
  go_wp2_with fail
  refine (unhide H7 _).mono ?_
  rintro e w6 ⟨rfl, rfl⟩
  go_wp2_with fail
  refine (unhide H7 _).mono ?_
  rintro e w7 ⟨rfl, rfl⟩
  go_wp2_with fail
  refine (unhide H7 _).mono ?_
  rintro e w8 ⟨rfl, rfl⟩
  go_wp2_with fail
  refine (unhide H6 _).mono ?_
  rintro e w9 ⟨rfl, rfl⟩
  go_wp2_with fail
  refine (unhide H7 _).mono ?_
  rintro e w10 ⟨rfl, rfl⟩
  go_wp2_with fail
  refine (unhide H7 _).mono ?_
  rintro e w11 ⟨rfl, rfl⟩
  go_wp2_with fail
  refine (unhide H8 _).mono ?_
  rintro e w12 ⟨rfl, rfl⟩
  go_wp2_with fail
  refine (unhide H2 _).mono ?_
  rintro e w13 ⟨rfl, rfl⟩
  go_wp2_with fail
  refine (unhide H2 _).mono ?_
  rintro e w14 ⟨rfl, rfl⟩
  go_wp2_with fail
  refine (unhide H10 _).mono ?_
  rintro e w15 ⟨rfl, rfl⟩
  go_wp2_with fail
  refine (unhide H11 _ E).mono ?_
  rintro e v ⟨rfl, bv⟩
  go_wp2_with fail
  go_ret
  exact ⟨rfl, bv⟩

set_option maxRecDepth 20000 in
set_option maxHeartbeats 1000000 in
theorem nets_s_fffff (ip a b n m N M mx my : Nat) (c : Bool) (w : World) (E : Env w) (hn : n < 256) (hm : m < 256) (hN : (n : Int) % 33 = (N : Int)) (hM : (m : Int) % 33 = (M : Int)) (hlt : (M : Int) < (N : Int))
    (hc : ((ip : Int) == (a : Int)) = c) (hand : bits .and .u32 (my : Int) (mx : Int) = (mx : Int)) (heq : (((mx : Int) == (my : Int)) : Bool) = ((M : Int) == (N : Int)))
    (nx : Nat) (hxo : bits .xor .u32 IntKind.u32.max (mx : Int) = (nx : Int)) (hnot : bits .and .u32 (nx : Int) (((nx : Int) + 1) % 4294967296) = 0)
    (H1 : Hid (∀ w, Calls Tryd.prog 17 #[.int .u32 (ip : Int), .int .u32 (a : Int), .int .i64 (N : Int)] w fun e w' => e = .returned (.bool false) ∧ w' = w))
    (H2 : Hid (∀ w, Calls Tryd.prog 17 #[.int .u32 (ip : Int), .int .u32 (a : Int), .int .i64 (M : Int)] w fun e w' => e = .returned (.bool false) ∧ w' = w))
    (H3 : Hid (∀ w, Calls Tryd.prog 17 #[.int .u32 (ip : Int), .int .u32 (ip : Int), .int .i64 (N : Int)] w fun e w' => e = .returned (.bool true) ∧ w' = w))
    (H4 : Hid (∀ w, Calls Tryd.prog 17 #[.int .u32 (ip : Int), .int .u32 (a : Int), .int .i64 0] w fun e w' => e = .returned (.bool true) ∧ w' = w))
    (H5 : Hid (∀ w, Calls Tryd.prog 17 #[.int .u32 (ip : Int), .int .u32 (a : Int), .int .i64 32] w fun e w' => e = .returned (.bool c) ∧ w' = w))
    (H6 : Hid (∀ w, Calls Tryd.prog 15 #[.int .i64 (N : Int)] w fun e w' => e = .returned (.int .u32 (my : Int)) ∧ w' = w))
    (H7 : Hid (∀ w, Calls Tryd.prog 15 #[.int .i64 (M : Int)] w fun e w' => e = .returned (.int .u32 (mx : Int)) ∧ w' = w))
    (H8 : Hid (∀ w, Calls Tryd.prog 17 #[.int .u32 (a : Int), .int .u32 (b : Int), .int .i64 (M : Int)] w fun e w' => e = .returned (.bool false) ∧ w' = w))
    : Calls Tryd.prog 6 #[.int .u32 (ip : Int), .int .u32 (a : Int), .int .u32 (b : Int), .int .u8 (n : Int), .int .u8 (m : Int)] w fun e w' => e = .returned (.bool true) ∧ Below w.heap.size w w' := by
  have H11 := hide alive_any
  have hcc : (c == c) = true := by cases c <;> rfl
  generalize hxy : ((M : Int) == (N : Int)) = d at *
  have hdd : (d == d) = true := by cases d <;> rfl
  go_enter Tryd.func6, Tryd.ntmps6
  go_wp2_with fail
  refine (unhide H1 _).mono ?_
  rintro e w1 ⟨rfl, rfl⟩
  go_wp2_with fail
  refine (unhide H3 _).mono ?_
  rintro e w2 ⟨rfl, rfl⟩
  go_wp2_with fail
  refine (unhide H4 _).mono ?_
  rintro e w3 ⟨rfl, rfl⟩
  go_wp2_with fail
  refine (unhide H5 _).mono ?_
  rintro e w4 ⟨rfl, rfl⟩
  go_wp2_with fail
  refine (unhide H6 _).mono ?_
  rintro e w5 ⟨rfl, rfl⟩
  go_wp2_with fail
  refine (unhide H7 _).mono ?_
  rintro e w6 ⟨rfl, rfl⟩
  go_wp2_with fail
  refine (unhide H7 _).mono ?_
  rintro e w7 ⟨rfl, rfl⟩
  go_wp2_with fail
  refine (unhide H7 _).mono ?_
  rintro e w8 ⟨rfl, rfl⟩
  go_wp2_with fail
  refine (unhide H6 _).mono ?_
  rintro e w9 ⟨rfl, rfl⟩
  go_wp2_with fail
  refine (unhide H7 _).mono ?_
  rintro e w10 ⟨rfl, rfl⟩
  go_wp2_with fail
  refine (unhide H7 _).mono ?_
  rintro e w11 ⟨rfl, rfl⟩
  go_wp2_with fail
  refine (unhide H8 _).mono ?_
  rintro e w12 ⟨rfl, rfl⟩
  go_wp2_with fail
  refine (unhide H2 _).mono ?_
  rintro e w13 ⟨rfl, rfl⟩
  go_wp2_with fail
  refine (unhide H11 _ E).mono ?_
  rintro e v ⟨rfl, bv⟩
  go_wp2_with fail
  go_ret
  exact ⟨rfl, bv⟩

end Go.Proofs.YtnglkadfnacmcaaDoor
