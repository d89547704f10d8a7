/- The walk of the law EtherTexts, over the loaded program: true; no memory that was there has turned. No conditions. -/
import Derived.Test.YtdgjoconppmihaaLw7b
namespace Go.Proofs.Ytdgjoconppmihaa
open Go.RowKit

set_option maxHeartbeats 1000000 in
theorem texts_long1 (a b t f k : Nat) (d s : ByteArray) (w : World) (h : (131072 : Int) < (d.size : Int)) :
    Calls Try.prog 6 #[.int .u64 (a : Int), .int .u64 (b : Int), .string s, fr t f k d] w fun e w' => e = .returned (.bool true) ∧ Below w.heap.size w w' := by
  have H1 := hide (fun w => long_any t f k d w)
  rw [decide_eq_true h] at H1
  have H2 := hide alive_any
  have BEL := hide (below_one w (.cells #[.int .u64 (t : Int), .int .u64 (f : Int), .int .u16 (k : Int), .string d] 26))
  clear h
  go_enter Try.func6, Try.ntmps6
  go_wp2_with fail
  refine (unhide H1 _).mono ?_
  rintro e w1 ⟨rfl, b1⟩
  go_wp2_with fail
  refine (unhide H2 _).mono ?_
  rintro e w2 ⟨rfl, b2⟩
  go_wp2_with fail
  go_ret
  exact ⟨rfl, tr2 (tr2 (unhide BEL) b1) b2⟩

set_option maxHeartbeats 1000000 in
theorem texts_long2 (a b t f k : Nat) (d s : ByteArray) (w : World) (h : (d.size : Int) ≤ 131072) (h2 : (256 : Int) < (s.size : Int)) :
    Calls Try.prog 6 #[.int .u64 (a : Int), .int .u64 (b : Int), .string s, fr t f k d] w fun e w' => e = .returned (.bool true) ∧ Below w.heap.size w w' := by
  have H1 := hide (fun w => long_any t f k d w)
  rw [decide_eq_false (by omega)] at H1
  have H2 := hide alive_any
  have BEL := hide (below_one w (.cells #[.int .u64 (t : Int), .int .u64 (f : Int), .int .u16 (k : Int), .string d] 26))
  have g := decide_eq_true h2
  clear h h2
  go_enter Try.func6, Try.ntmps6
  go_wp2_with fail
  refine (unhide H1 _).mono ?_
  rintro e w1 ⟨rfl, b1⟩
  go_wp2_with fail
  refine (unhide H2 _).mono ?_
  rintro e w2 ⟨rfl, b2⟩
  go_wp2_with fail
  go_ret
  exact ⟨rfl, tr2 (tr2 (unhide BEL) b1) b2⟩

set_option maxRecDepth 20000 in
set_option maxHeartbeats 2000000 in
theorem texts_sy (a b t f k A : Nat) (d s : ByteArray) (w : World) (h : (d.size : Int) ≤ 131072) (h2 : (s.size : Int) ≤ 256) (X : ByteArray) (hX : X.size = 17)
    (ea : bits .and .u64 (a : Int) 281474976710655 = (A : Int)) (eb : bits .and .u64 (b : Int) 281474976710655 = (A : Int))
    (HT : Hid (∀ w, Calls Try.prog 16 #[.int .u64 (A : Int)] w fun x w' => x = .returned (.string X) ∧ Below w.heap.size w w'))
    (H1 : Hid (∀ w, Calls Try.prog 14 #[.string X] w fun x w' => x = .returned (.tuple #[.int .u64 (A : Int), .int .i64 0]) ∧ Below w.heap.size w w'))
    (P : Nat) (H2 : Hid (∀ w, Calls Try.prog 14 #[.string s] w fun x w' => x = .returned (.tuple #[.int .u64 (P : Int), .int .i64 0]) ∧ Below w.heap.size w w'))
    (HT3 : Hid (∀ w, Calls Try.prog 16 #[.int .u64 (P : Int)] w fun x w' => x = .returned (.string s) ∧ Below w.heap.size w w'))
    (HF : Hid (∀ w, Calls Try.prog 18 #[.agg #[.int .u64 (A : Int), .int .u64 (f : Int), .int .u16 (k : Int), .string d], .int .u64 (A : Int)] w fun x w' => x = .returned (.bool true) ∧ Below w.heap.size w w'))
    (HG : Hid (∀ w, Calls Try.prog 18 #[.agg #[.int .u64 281474976710655, .int .u64 (f : Int), .int .u16 (k : Int), .string d], .int .u64 (A : Int)] w fun x w' => x = .returned (.bool true) ∧ Below w.heap.size w w')) :
    Calls Try.prog 6 #[.int .u64 (a : Int), .int .u64 (b : Int), .string s, fr t f k d] w fun e w' => e = .returned (.bool true) ∧ Below w.heap.size w w' := by
  have H0 := hide (fun w => long_any t f k d w)
  rw [decide_eq_false (by omega)] at H0
  have H5 := hide alive_any
  have g := decide_eq_false (show ¬ (256 : Int) < (s.size : Int) by omega)
  have K0 := hide (box_start w t f k d 26)
  have hS := toList_refl s
  have hXX := toList_refl X
  clear h h2
  go_enter Try.func6, Try.ntmps6
  go_wp2_with fail
  refine (unhide H0 _).mono ?_
  rintro e w1 ⟨rfl, b1⟩
  have K := hide ((unhide K0).on b1)
  clear K0 b1 H0
  go_wp2_with fail
  refine (unhide HT _).mono ?_
  rintro e w2 ⟨rfl, b2⟩
  have K := hide ((unhide K).on b2)
  clear b2
  go_wp2_with fail
  refine (unhide H1 _).mono ?_
  rintro e w3 ⟨rfl, b3⟩
  have K := hide ((unhide K).on b3)
  clear b3
  go_wp2_with fail
  refine (unhide H2 _).mono ?_
  rintro e w4 ⟨rfl, b4⟩
  have K := hide ((unhide K).on b4)
  clear b4
  go_wp2_with fail
  refine (unhide HT _).mono ?_
  rintro e w5 ⟨rfl, b5⟩
  have K := hide ((unhide K).on b5)
  clear b5
  go_wp2_with fail
  refine (unhide HT _).mono ?_
  rintro e w6 ⟨rfl, b6⟩
  have K := hide ((unhide K).on b6)
  clear b6
  go_wp2_with fail
  refine (unhide HT _).mono ?_
  rintro e w7 ⟨rfl, b7⟩
  have K := hide ((unhide K).on b7)
  clear b7
  go_wp2_with fail
  refine (unhide HT3 _).mono ?_
  rintro e w8 ⟨rfl, b8⟩
  have K := hide ((unhide K).on b8)
  clear b8
  obtain ⟨c0, c1, c2, c3⟩ := box_cells (unhide K)
  have f0 := (unhide K).free 0 0 _ rfl
  simp only [Nat.add_zero] at f0
  have L := hide ((unhide K).set 0 0 _ (.int .u64 (A : Int)) rfl)
  clear K
  go_wp2_with fail
  refine (unhide HF _).mono ?_
  rintro e wa ⟨rfl, ba⟩
  have L := hide ((unhide L).on ba)
  clear ba c0 c1 c2 c3 f0
  have c0 := (unhide L).cells 0 0 _ rfl
  have c1 := (unhide L).cells 0 1 _ rfl
  have c2 := (unhide L).cells 0 2 _ rfl
  have c3 := (unhide L).cells 0 3 _ rfl
  have f0 := (unhide L).free 0 0 _ rfl
  simp only [Nat.add_zero] at c0 c1 c2 c3 f0
  have M := hide ((unhide L).set 0 0 _ (.int .u64 281474976710655) rfl)
  clear L
  go_wp2_with fail
  refine (unhide HG _).mono ?_
  rintro e wb ⟨rfl, bb⟩
  have M := hide ((unhide M).on bb)
  clear bb c0 c1 c2 c3 f0
  go_wp2_with fail
  refine (unhide H5 _).mono ?_
  rintro e wc ⟨rfl, bc⟩
  go_wp2_with fail
  go_ret
  exact ⟨rfl, tr2 (unhide M).bel bc⟩

set_option maxRecDepth 20000 in
set_option maxHeartbeats 2000000 in
theorem texts_sn (a b t f k A : Nat) (d s : ByteArray) (w : World) (h : (d.size : Int) ≤ 131072) (h2 : (s.size : Int) ≤ 256) (X : ByteArray) (hX : X.size = 17)
    (ea : bits .and .u64 (a : Int) 281474976710655 = (A : Int)) (eb : bits .and .u64 (b : Int) 281474976710655 = (A : Int))
    (HT : Hid (∀ w, Calls Try.prog 16 #[.int .u64 (A : Int)] w fun x w' => x = .returned (.string X) ∧ Below w.heap.size w w'))
    (H1 : Hid (∀ w, Calls Try.prog 14 #[.string X] w fun x w' => x = .returned (.tuple #[.int .u64 (A : Int), .int .i64 0]) ∧ Below w.heap.size w w'))
    (P : Nat) (H2 : Hid (∀ w, Calls Try.prog 14 #[.string s] w fun x w' => x = .returned (.tuple #[.int .u64 (P : Int), .int .i64 8]) ∧ Below w.heap.size w w'))
    (HF : Hid (∀ w, Calls Try.prog 18 #[.agg #[.int .u64 (A : Int), .int .u64 (f : Int), .int .u16 (k : Int), .string d], .int .u64 (A : Int)] w fun x w' => x = .returned (.bool true) ∧ Below w.heap.size w w'))
    (HG : Hid (∀ w, Calls Try.prog 18 #[.agg #[.int .u64 281474976710655, .int .u64 (f : Int), .int .u16 (k : Int), .string d], .int .u64 (A : Int)] w fun x w' => x = .returned (.bool true) ∧ Below w.heap.size w w')) :
    Calls Try.prog 6 #[.int .u64 (a : Int), .int .u64 (b : Int), .string s, fr t f k d] w fun e w' => e = .returned (.bool true) ∧ Below w.heap.size w w' := by
  have H0 := hide (fun w => long_any t f k d w)
  rw [decide_eq_false (by omega)] at H0
  have H5 := hide alive_any
  have g := decide_eq_false (show ¬ (256 : Int) < (s.size : Int) by omega)
  have K0 := hide (box_start w t f k d 26)
  have hS := toList_refl s
  have hXX := toList_refl X
  clear h h2
  go_enter Try.func6, Try.ntmps6
  go_wp2_with fail
  refine (unhide H0 _).mono ?_
  rintro e w1 ⟨rfl, b1⟩
  have K := hide ((unhide K0).on b1)
  clear K0 b1 H0
  go_wp2_with fail
  refine (unhide HT _).mono ?_
  rintro e w2 ⟨rfl, b2⟩
  have K := hide ((unhide K).on b2)
  clear b2
  go_wp2_with fail
  refine (unhide H1 _).mono ?_
  rintro e w3 ⟨rfl, b3⟩
  have K := hide ((unhide K).on b3)
  clear b3
  go_wp2_with fail
  refine (unhide H2 _).mono ?_
  rintro e w4 ⟨rfl, b4⟩
  have K := hide ((unhide K).on b4)
  clear b4
  go_wp2_with fail
  refine (unhide HT _).mono ?_
  rintro e w5 ⟨rfl, b5⟩
  have K := hide ((unhide K).on b5)
  clear b5
  go_wp2_with fail
  refine (unhide HT _).mono ?_
  rintro e w6 ⟨rfl, b6⟩
  have K := hide ((unhide K).on b6)
  clear b6
  go_wp2_with fail
  refine (unhide HT _).mono ?_
  rintro e w7 ⟨rfl, b7⟩
  have K := hide ((unhide K).on b7)
  clear b7
  obtain ⟨c0, c1, c2, c3⟩ := box_cells (unhide K)
  have f0 := (unhide K).free 0 0 _ rfl
  simp only [Nat.add_zero] at f0
  have L := hide ((unhide K).set 0 0 _ (.int .u64 (A : Int)) rfl)
  clear K
  go_wp2_with fail
  refine (unhide HF _).mono ?_
  rintro e wa ⟨rfl, ba⟩
  have L := hide ((unhide L).on ba)
  clear ba c0 c1 c2 c3 f0
  have c0 := (unhide L).cells 0 0 _ rfl
  have c1 := (unhide L).cells 0 1 _ rfl
  have c2 := (unhide L).cells 0 2 _ rfl
  have c3 := (unhide L).cells 0 3 _ rfl
  have f0 := (unhide L).free 0 0 _ rfl
  simp only [Nat.add_zero] at c0 c1 c2 c3 f0
  have M := hide ((unhide L).set 0 0 _ (.int .u64 281474976710655) rfl)
  clear L
  go_wp2_with fail
  refine (unhide HG _).mono ?_
  rintro e wb ⟨rfl, bb⟩
  have M := hide ((unhide M).on bb)
  clear bb c0 c1 c2 c3 f0
  go_wp2_with fail
  refine (unhide H5 _).mono ?_
  rintro e wc ⟨rfl, bc⟩
  go_wp2_with fail
  go_ret
  exact ⟨rfl, tr2 (unhide M).bel bc⟩

set_option maxRecDepth 20000 in
set_option maxHeartbeats 2000000 in
theorem texts_by (a b t f k A B : Nat) (d s : ByteArray) (w : World) (h : (d.size : Int) ≤ 131072) (h2 : (s.size : Int) ≤ 256) (X Y : ByteArray) (hX : X.size = 17)
    (ea : bits .and .u64 (a : Int) 281474976710655 = (A : Int)) (eb : bits .and .u64 (b : Int) 281474976710655 = (B : Int))
    (e1 : ((A : Int) == (B : Int)) = false) (e2 : ((A : Int) == 281474976710655) = true) (hXY : (X.toList == Y.toList) = false)
    (HT : Hid (∀ w, Calls Try.prog 16 #[.int .u64 (A : Int)] w fun x w' => x = .returned (.string X) ∧ Below w.heap.size w w'))
    (HT2 : Hid (∀ w, Calls Try.prog 16 #[.int .u64 (B : Int)] w fun x w' => x = .returned (.string Y) ∧ Below w.heap.size w w'))
    (H1 : Hid (∀ w, Calls Try.prog 14 #[.string X] w fun x w' => x = .returned (.tuple #[.int .u64 (A : Int), .int .i64 0]) ∧ Below w.heap.size w w'))
    (P : Nat) (H2 : Hid (∀ w, Calls Try.prog 14 #[.string s] w fun x w' => x = .returned (.tuple #[.int .u64 (P : Int), .int .i64 0]) ∧ Below w.heap.size w w'))
    (HT3 : Hid (∀ w, Calls Try.prog 16 #[.int .u64 (P : Int)] w fun x w' => x = .returned (.string s) ∧ Below w.heap.size w w'))
    (HF : Hid (∀ w, Calls Try.prog 18 #[.agg #[.int .u64 (A : Int), .int .u64 (f : Int), .int .u16 (k : Int), .string d], .int .u64 (B : Int)] w fun x w' => x = .returned (.bool true) ∧ Below w.heap.size w w'))
    (HG : Hid (∀ w, Calls Try.prog 18 #[.agg #[.int .u64 281474976710655, .int .u64 (f : Int), .int .u16 (k : Int), .string d], .int .u64 (B : Int)] w fun x w' => x = .returned (.bool true) ∧ Below w.heap.size w w')) :
    Calls Try.prog 6 #[.int .u64 (a : Int), .int .u64 (b : Int), .string s, fr t f k d] w fun e w' => e = .returned (.bool true) ∧ Below w.heap.size w w' := by
  have H0 := hide (fun w => long_any t f k d w)
  rw [decide_eq_false (by omega)] at H0
  have H5 := hide alive_any
  have g := decide_eq_false (show ¬ (256 : Int) < (s.size : Int) by omega)
  have K0 := hide (box_start w t f k d 26)
  have hS := toList_refl s
  have hXX := toList_refl X
  clear h h2
  go_enter Try.func6, Try.ntmps6
  go_wp2_with fail
  refine (unhide H0 _).mono ?_
  rintro e w1 ⟨rfl, b1⟩
  have K := hide ((unhide K0).on b1)
  clear K0 b1 H0
  go_wp2_with fail
  refine (unhide HT _).mono ?_
  rintro e w2 ⟨rfl, b2⟩
  have K := hide ((unhide K).on b2)
  clear b2
  go_wp2_with fail
  refine (unhide H1 _).mono ?_
  rintro e w3 ⟨rfl, b3⟩
  have K := hide ((unhide K).on b3)
  clear b3
  go_wp2_with fail
  refine (unhide H2 _).mono ?_
  rintro e w4 ⟨rfl, b4⟩
  have K := hide ((unhide K).on b4)
  clear b4
  go_wp2_with fail
  refine (unhide HT _).mono ?_
  rintro e w5 ⟨rfl, b5⟩
  have K := hide ((unhide K).on b5)
  clear b5
  go_wp2_with fail
  refine (unhide HT2 _).mono ?_
  rintro e w6 ⟨rfl, b6⟩
  have K := hide ((unhide K).on b6)
  clear b6
  go_wp2_with fail
  refine (unhide HT _).mono ?_
  rintro e w7 ⟨rfl, b7⟩
  have K := hide ((unhide K).on b7)
  clear b7
  go_wp2_with fail
  refine (unhide HT3 _).mono ?_
  rintro e w8 ⟨rfl, b8⟩
  have K := hide ((unhide K).on b8)
  clear b8
  obtain ⟨c0, c1, c2, c3⟩ := box_cells (unhide K)
  have f0 := (unhide K).free 0 0 _ rfl
  simp only [Nat.add_zero] at f0
  have L := hide ((unhide K).set 0 0 _ (.int .u64 (A : Int)) rfl)
  clear K
  go_wp2_with fail
  refine (unhide HF _).mono ?_
  rintro e wa ⟨rfl, ba⟩
  have L := hide ((unhide L).on ba)
  clear ba c0 c1 c2 c3 f0
  have c0 := (unhide L).cells 0 0 _ rfl
  have c1 := (unhide L).cells 0 1 _ rfl
  have c2 := (unhide L).cells 0 2 _ rfl
  have c3 := (unhide L).cells 0 3 _ rfl
  have f0 := (unhide L).free 0 0 _ rfl
  simp only [Nat.add_zero] at c0 c1 c2 c3 f0
  have M := hide ((unhide L).set 0 0 _ (.int .u64 281474976710655) rfl)
  clear L
  go_wp2_with fail
  refine (unhide HG _).mono ?_
  rintro e wb ⟨rfl, bb⟩
  have M := hide ((unhide M).on bb)
  clear bb c0 c1 c2 c3 f0
  go_wp2_with fail
  refine (unhide H5 _).mono ?_
  rintro e wc ⟨rfl, bc⟩
  go_wp2_with fail
  go_ret
  exact ⟨rfl, tr2 (unhide M).bel bc⟩

set_option maxRecDepth 20000 in
set_option maxHeartbeats 2000000 in
theorem texts_bn (a b t f k A B : Nat) (d s : ByteArray) (w : World) (h : (d.size : Int) ≤ 131072) (h2 : (s.size : Int) ≤ 256) (X Y : ByteArray) (hX : X.size = 17)
    (ea : bits .and .u64 (a : Int) 281474976710655 = (A : Int)) (eb : bits .and .u64 (b : Int) 281474976710655 = (B : Int))
    (e1 : ((A : Int) == (B : Int)) = false) (e2 : ((A : Int) == 281474976710655) = true) (hXY : (X.toList == Y.toList) = false)
    (HT : Hid (∀ w, Calls Try.prog 16 #[.int .u64 (A : Int)] w fun x w' => x = .returned (.string X) ∧ Below w.heap.size w w'))
    (HT2 : Hid (∀ w, Calls Try.prog 16 #[.int .u64 (B : Int)] w fun x w' => x = .returned (.string Y) ∧ Below w.heap.size w w'))
    (H1 : Hid (∀ w, Calls Try.prog 14 #[.string X] w fun x w' => x = .returned (.tuple #[.int .u64 (A : Int), .int .i64 0]) ∧ Below w.heap.size w w'))
    (P : Nat) (H2 : Hid (∀ w, Calls Try.prog 14 #[.string s] w fun x w' => x = .returned (.tuple #[.int .u64 (P : Int), .int .i64 8]) ∧ Below w.heap.size w w'))
    (HF : Hid (∀ w, Calls Try.prog 18 #[.agg #[.int .u64 (A : Int), .int .u64 (f : Int), .int .u16 (k : Int), .string d], .int .u64 (B : Int)] w fun x w' => x = .returned (.bool true) ∧ Below w.heap.size w w'))
    (HG : Hid (∀ w, Calls Try.prog 18 #[.agg #[.int .u64 281474976710655, .int .u64 (f : Int), .int .u16 (k : Int), .string d], .int .u64 (B : Int)] w fun x w' => x = .returned (.bool true) ∧ Below w.heap.size w w')) :
    Calls Try.prog 6 #[.int .u64 (a : Int), .int .u64 (b : Int), .string s, fr t f k d] w fun e w' => e = .returned (.bool true) ∧ Below w.heap.size w w' := by
  have H0 := hide (fun w => long_any t f k d w)
  rw [decide_eq_false (by omega)] at H0
  have H5 := hide alive_any
  have g := decide_eq_false (show ¬ (256 : Int) < (s.size : Int) by omega)
  have K0 := hide (box_start w t f k d 26)
  have hS := toList_refl s
  have hXX := toList_refl X
  clear h h2
  go_enter Try.func6, Try.ntmps6
  go_wp2_with fail
  refine (unhide H0 _).mono ?_
  rintro e w1 ⟨rfl, b1⟩
  have K := hide ((unhide K0).on b1)
  clear K0 b1 H0
  go_wp2_with fail
  refine (unhide HT _).mono ?_
  rintro e w2 ⟨rfl, b2⟩
  have K := hide ((unhide K).on b2)
  clear b2
  go_wp2_with fail
  refine (unhide H1 _).mono ?_
  rintro e w3 ⟨rfl, b3⟩
  have K := hide ((unhide K).on b3)
  clear b3
  go_wp2_with fail
  refine (unhide H2 _).mono ?_
  rintro e w4 ⟨rfl, b4⟩
  have K := hide ((unhide K).on b4)
  clear b4
  go_wp2_with fail
  refine (unhide HT _).mono ?_
  rintro e w5 ⟨rfl, b5⟩
  have K := hide ((unhide K).on b5)
  clear b5
  go_wp2_with fail
  refine (unhide HT2 _).mono ?_
  rintro e w6 ⟨rfl, b6⟩
  have K := hide ((unhide K).on b6)
  clear b6
  go_wp2_with fail
  refine (unhide HT _).mono ?_
  rintro e w7 ⟨rfl, b7⟩
  have K := hide ((unhide K).on b7)
  clear b7
  obtain ⟨c0, c1, c2, c3⟩ := box_cells (unhide K)
  have f0 := (unhide K).free 0 0 _ rfl
  simp only [Nat.add_zero] at f0
  have L := hide ((unhide K).set 0 0 _ (.int .u64 (A : Int)) rfl)
  clear K
  go_wp2_with fail
  refine (unhide HF _).mono ?_
  rintro e wa ⟨rfl, ba⟩
  have L := hide ((unhide L).on ba)
  clear ba c0 c1 c2 c3 f0
  have c0 := (unhide L).cells 0 0 _ rfl
  have c1 := (unhide L).cells 0 1 _ rfl
  have c2 := (unhide L).cells 0 2 _ rfl
  have c3 := (unhide L).cells 0 3 _ rfl
  have f0 := (unhide L).free 0 0 _ rfl
  simp only [Nat.add_zero] at c0 c1 c2 c3 f0
  have M := hide ((unhide L).set 0 0 _ (.int .u64 281474976710655) rfl)
  clear L
  go_wp2_with fail
  refine (unhide HG _).mono ?_
  rintro e wb ⟨rfl, bb⟩
  have M := hide ((unhide M).on bb)
  clear bb c0 c1 c2 c3 f0
  go_wp2_with fail
  refine (unhide H5 _).mono ?_
  rintro e wc ⟨rfl, bc⟩
  go_wp2_with fail
  go_ret
  exact ⟨rfl, tr2 (unhide M).bel bc⟩

set_option maxRecDepth 20000 in
set_option maxHeartbeats 2000000 in
theorem texts_oy (a b t f k A B : Nat) (d s : ByteArray) (w : World) (h : (d.size : Int) ≤ 131072) (h2 : (s.size : Int) ≤ 256) (X Y : ByteArray) (hX : X.size = 17)
    (ea : bits .and .u64 (a : Int) 281474976710655 = (A : Int)) (eb : bits .and .u64 (b : Int) 281474976710655 = (B : Int))
    (e1 : ((A : Int) == (B : Int)) = false) (e2 : ((A : Int) == 281474976710655) = false) (hXY : (X.toList == Y.toList) = false)
    (HT : Hid (∀ w, Calls Try.prog 16 #[.int .u64 (A : Int)] w fun x w' => x = .returned (.string X) ∧ Below w.heap.size w w'))
    (HT2 : Hid (∀ w, Calls Try.prog 16 #[.int .u64 (B : Int)] w fun x w' => x = .returned (.string Y) ∧ Below w.heap.size w w'))
    (H1 : Hid (∀ w, Calls Try.prog 14 #[.string X] w fun x w' => x = .returned (.tuple #[.int .u64 (A : Int), .int .i64 0]) ∧ Below w.heap.size w w'))
    (P : Nat) (H2 : Hid (∀ w, Calls Try.prog 14 #[.string s] w fun x w' => x = .returned (.tuple #[.int .u64 (P : Int), .int .i64 0]) ∧ Below w.heap.size w w'))
    (HT3 : Hid (∀ w, Calls Try.prog 16 #[.int .u64 (P : Int)] w fun x w' => x = .returned (.string s) ∧ Below w.heap.size w w'))
    (HF : Hid (∀ w, Calls Try.prog 18 #[.agg #[.int .u64 (A : Int), .int .u64 (f : Int), .int .u16 (k : Int), .string d], .int .u64 (B : Int)] w fun x w' => x = .returned (.bool false) ∧ Below w.heap.size w w'))
    (HG : Hid (∀ w, Calls Try.prog 18 #[.agg #[.int .u64 281474976710655, .int .u64 (f : Int), .int .u16 (k : Int), .string d], .int .u64 (B : Int)] w fun x w' => x = .returned (.bool true) ∧ Below w.heap.size w w')) :
    Calls Try.prog 6 #[.int .u64 (a : Int), .int .u64 (b : Int), .string s, fr t f k d] w fun e w' => e = .returned (.bool true) ∧ Below w.heap.size w w' := by
  have H0 := hide (fun w => long_any t f k d w)
  rw [decide_eq_false (by omega)] at H0
  have H5 := hide alive_any
  have g := decide_eq_false (show ¬ (256 : Int) < (s.size : Int) by omega)
  have K0 := hide (box_start w t f k d 26)
  have hS := toList_refl s
  have hXX := toList_refl X
  clear h h2
  go_enter Try.func6, Try.ntmps6
  go_wp2_with fail
  refine (unhide H0 _).mono ?_
  rintro e w1 ⟨rfl, b1⟩
  have K := hide ((unhide K0).on b1)
  clear K0 b1 H0
  go_wp2_with fail
  refine (unhide HT _).mono ?_
  rintro e w2 ⟨rfl, b2⟩
  have K := hide ((unhide K).on b2)
  clear b2
  go_wp2_with fail
  refine (unhide H1 _).mono ?_
  rintro e w3 ⟨rfl, b3⟩
  have K := hide ((unhide K).on b3)
  clear b3
  go_wp2_with fail
  refine (unhide H2 _).mono ?_
  rintro e w4 ⟨rfl, b4⟩
  have K := hide ((unhide K).on b4)
  clear b4
  go_wp2_with fail
  refine (unhide HT _).mono ?_
  rintro e w5 ⟨rfl, b5⟩
  have K := hide ((unhide K).on b5)
  clear b5
  go_wp2_with fail
  refine (unhide HT2 _).mono ?_
  rintro e w6 ⟨rfl, b6⟩
  have K := hide ((unhide K).on b6)
  clear b6
  go_wp2_with fail
  refine (unhide HT _).mono ?_
  rintro e w7 ⟨rfl, b7⟩
  have K := hide ((unhide K).on b7)
  clear b7
  go_wp2_with fail
  refine (unhide HT3 _).mono ?_
  rintro e w8 ⟨rfl, b8⟩
  have K := hide ((unhide K).on b8)
  clear b8
  obtain ⟨c0, c1, c2, c3⟩ := box_cells (unhide K)
  have f0 := (unhide K).free 0 0 _ rfl
  simp only [Nat.add_zero] at f0
  have L := hide ((unhide K).set 0 0 _ (.int .u64 (A : Int)) rfl)
  clear K
  go_wp2_with fail
  refine (unhide HF _).mono ?_
  rintro e wa ⟨rfl, ba⟩
  have L := hide ((unhide L).on ba)
  clear ba c0 c1 c2 c3 f0
  have c0 := (unhide L).cells 0 0 _ rfl
  have c1 := (unhide L).cells 0 1 _ rfl
  have c2 := (unhide L).cells 0 2 _ rfl
  have c3 := (unhide L).cells 0 3 _ rfl
  have f0 := (unhide L).free 0 0 _ rfl
  simp only [Nat.add_zero] at c0 c1 c2 c3 f0
  have M := hide ((unhide L).set 0 0 _ (.int .u64 281474976710655) rfl)
  clear L
  go_wp2_with fail
  refine (unhide HG _).mono ?_
  rintro e wb ⟨rfl, bb⟩
  have M := hide ((unhide M).on bb)
  clear bb c0 c1 c2 c3 f0
  go_wp2_with fail
  refine (unhide H5 _).mono ?_
  rintro e wc ⟨rfl, bc⟩
  go_wp2_with fail
  go_ret
  exact ⟨rfl, tr2 (unhide M).bel bc⟩

set_option maxRecDepth 20000 in
set_option maxHeartbeats 2000000 in
theorem texts_on (a b t f k A B : Nat) (d s : ByteArray) (w : World) (h : (d.size : Int) ≤ 131072) (h2 : (s.size : Int) ≤ 256) (X Y : ByteArray) (hX : X.size = 17)
    (ea : bits .and .u64 (a : Int) 281474976710655 = (A : Int)) (eb : bits .and .u64 (b : Int) 281474976710655 = (B : Int))
    (e1 : ((A : Int) == (B : Int)) = false) (e2 : ((A : Int) == 281474976710655) = false) (hXY : (X.toList == Y.toList) = false)
    (HT : Hid (∀ w, Calls Try.prog 16 #[.int .u64 (A : Int)] w fun x w' => x = .returned (.string X) ∧ Below w.heap.size w w'))
    (HT2 : Hid (∀ w, Calls Try.prog 16 #[.int .u64 (B : Int)] w fun x w' => x = .returned (.string Y) ∧ Below w.heap.size w w'))
    (H1 : Hid (∀ w, Calls Try.prog 14 #[.string X] w fun x w' => x = .returned (.tuple #[.int .u64 (A : Int), .int .i64 0]) ∧ Below w.heap.size w w'))
    (P : Nat) (H2 : Hid (∀ w, Calls Try.prog 14 #[.string s] w fun x w' => x = .returned (.tuple #[.int .u64 (P : Int), .int .i64 8]) ∧ Below w.heap.size w w'))
    (HF : Hid (∀ w, Calls Try.prog 18 #[.agg #[.int .u64 (A : Int), .int .u64 (f : Int), .int .u16 (k : Int), .string d], .int .u64 (B : Int)] w fun x w' => x = .returned (.bool false) ∧ Below w.heap.size w w'))
    (HG : Hid (∀ w, Calls Try.prog 18 #[.agg #[.int .u64 281474976710655, .int .u64 (f : Int), .int .u16 (k : Int), .string d], .int .u64 (B : Int)] w fun x w' => x = .returned (.bool true) ∧ Below w.heap.size w w')) :
    Calls Try.prog 6 #[.int .u64 (a : Int), .int .u64 (b : Int), .string s, fr t f k d] w fun e w' => e = .returned (.bool true) ∧ Below w.heap.size w w' := by
  have H0 := hide (fun w => long_any t f k d w)
  rw [decide_eq_false (by omega)] at H0
  have H5 := hide alive_any
  have g := decide_eq_false (show ¬ (256 : Int) < (s.size : Int) by omega)
  have K0 := hide (box_start w t f k d 26)
  have hS := toList_refl s
  have hXX := toList_refl X
  clear h h2
  go_enter Try.func6, Try.ntmps6
  go_wp2_with fail
  refine (unhide H0 _).mono ?_
  rintro e w1 ⟨rfl, b1⟩
  have K := hide ((unhide K0).on b1)
  clear K0 b1 H0
  go_wp2_with fail
  refine (unhide HT _).mono ?_
  rintro e w2 ⟨rfl, b2⟩
  have K := hide ((unhide K).on b2)
  clear b2
  go_wp2_with fail
  refine (unhide H1 _).mono ?_
  rintro e w3 ⟨rfl, b3⟩
  have K := hide ((unhide K).on b3)
  clear b3
  go_wp2_with fail
  refine (unhide H2 _).mono ?_
  rintro e w4 ⟨rfl, b4⟩
  have K := hide ((unhide K).on b4)
  clear b4
  go_wp2_with fail
  refine (unhide HT _).mono ?_
  rintro e w5 ⟨rfl, b5⟩
  have K := hide ((unhide K).on b5)
  clear b5
  go_wp2_with fail
  refine (unhide HT2 _).mono ?_
  rintro e w6 ⟨rfl, b6⟩
  have K := hide ((unhide K).on b6)
  clear b6
  go_wp2_with fail
  refine (unhide HT _).mono ?_
  rintro e w7 ⟨rfl, b7⟩
  have K := hide ((unhide K).on b7)
  clear b7
  obtain ⟨c0, c1, c2, c3⟩ := box_cells (unhide K)
  have f0 := (unhide K).free 0 0 _ rfl
  simp only [Nat.add_zero] at f0
  have L := hide ((unhide K).set 0 0 _ (.int .u64 (A : Int)) rfl)
  clear K
  go_wp2_with fail
  refine (unhide HF _).mono ?_
  rintro e wa ⟨rfl, ba⟩
  have L := hide ((unhide L).on ba)
  clear ba c0 c1 c2 c3 f0
  have c0 := (unhide L).cells 0 0 _ rfl
  have c1 := (unhide L).cells 0 1 _ rfl
  have c2 := (unhide L).cells 0 2 _ rfl
  have c3 := (unhide L).cells 0 3 _ rfl
  have f0 := (unhide L).free 0 0 _ rfl
  simp only [Nat.add_zero] at c0 c1 c2 c3 f0
  have M := hide ((unhide L).set 0 0 _ (.int .u64 281474976710655) rfl)
  clear L
  go_wp2_with fail
  refine (unhide HG _).mono ?_
  rintro e wb ⟨rfl, bb⟩
  have M := hide ((unhide M).on bb)
  clear bb c0 c1 c2 c3 f0
  go_wp2_with fail
  refine (unhide H5 _).mono ?_
  rintro e wc ⟨rfl, bc⟩
  go_wp2_with fail
  go_ret
  exact ⟨rfl, tr2 (unhide M).bel bc⟩

theorem beq_nat {x y : Nat} (h : x ≠ y) : ((x : Int) == (y : Int)) = false := by
  apply Bool.eq_false_iff.2
  intro e
  rw [beq_iff_eq] at e
  omega
theorem etherTexts_walk (x y : Int) (s : ByteArray) (v : Value) (t f k : Nat) (d : ByteArray) (w : World) (hx : (Lit.int .u64 x).wf = true) (hy : (Lit.int .u64 y).wf = true) (_ : s.size ≤ maxLen) (hv : IsFrame v t f k d) :
    Calls Try.prog 6 #[.int .u64 x, .int .u64 y, .string s, v] w fun e w' => e = .returned (.bool true) ∧ Below w.heap.size w w' := by
  obtain ⟨a, rfl, ha⟩ := nat64 hx
  obtain ⟨b, rfl, hb⟩ := nat64 hy
  obtain ⟨rfl, ht, hf, hk, hd⟩ := hv
  by_cases h1 : (131072 : Int) < (d.size : Int)
  · exact texts_long1 a b t f k d s w h1
  · by_cases h2 : (256 : Int) < (s.size : Int)
    · exact texts_long2 a b t f k d s w (by omega) h2
    · have hb1 : (d.size : Int) ≤ 131072 := by omega
      have hb2 : (s.size : Int) ≤ 256 := by omega
      have ea := and48 a ha
      have eb := and48 b hb
      have lA : a % 281474976710656 < 281474976710656 := Nat.mod_lt _ (by omega)
      have lB : b % 281474976710656 < 281474976710656 := Nat.mod_lt _ (by omega)
      generalize a % 281474976710656 = A at *
      generalize b % 281474976710656 = B at *
      have TA := fun w => text_any A w (by omega)
      have TB := fun w => text_any B w (by omega)
      have PA := fun w => parse_txt A lA w
      have G := fun w => for_any 281474976710655 f k d B w
      have hG : forB 281474976710655 B = true := by unfold forB; simp
      rw [hG] at G
      have zX : (⟨(mtxt A).toArray⟩ : ByteArray).size = 17 := rfl
      have FF := fun w => for_any A f k d B w
      have PS : (∃ P : Nat, (∀ w, Calls Try.prog 14 #[.string s] w fun x w' => x = .returned (.tuple #[.int .u64 (P : Int), .int .i64 0]) ∧ Below w.heap.size w w') ∧ (∀ w, Calls Try.prog 16 #[.int .u64 (P : Int)] w fun x w' => x = .returned (.string s) ∧ Below w.heap.size w w')) ∨
          (∀ w, Calls Try.prog 14 #[.string s] w fun x w' => x = .returned (.tuple #[.int .u64 ((0 : Nat) : Int), .int .i64 8]) ∧ Below w.heap.size w w') := by
        by_cases h : ∃ x, x < 281474976710656 ∧ s.data.toList = mtxt x
        · obtain ⟨x, hx, e⟩ := h
          have hs := mk_list s
          rw [e] at hs
          subst hs
          exact .inl ⟨x, fun w => parse_txt x hx w, fun w => text_any x w (by omega)⟩
        · exact .inr (fun w => parse_no s (fun x hx e => h ⟨x, hx, e⟩) w)
      by_cases hAB : A = B
      · subst hAB
        have hF : forB A A = true := by unfold forB; simp
        rw [hF] at FF
        rcases PS with ⟨P, p1, p2⟩ | p1
        · exact texts_sy a b t f k A d s w hb1 hb2 _ zX ea eb TA PA P p1 p2 FF G
        · exact texts_sn a b t f k A d s w hb1 hb2 _ zX ea eb TA PA 0 p1 FF G
      · have e1 := beq_nat hAB
        have hXY : ((⟨(mtxt A).toArray⟩ : ByteArray).toList == (⟨(mtxt B).toArray⟩ : ByteArray).toList) = false := by
          rw [Lib.toList_data, Lib.toList_data]
          simpa using fun e => hAB (mtxt_inj lA lB e)
        by_cases hbc : A = 281474976710655
        · have e2 : ((A : Int) == 281474976710655) = true := by rw [hbc]; rfl
          have hF : forB A B = true := by unfold forB; simp [hbc]
          rw [hF] at FF
          rcases PS with ⟨P, p1, p2⟩ | p1
          · exact texts_by a b t f k A B d s w hb1 hb2 _ _ zX ea eb e1 e2 hXY TA TB PA P p1 p2 FF G
          · exact texts_bn a b t f k A B d s w hb1 hb2 _ _ zX ea eb e1 e2 hXY TA TB PA 0 p1 FF G
        · have e2 : ((A : Int) == 281474976710655) = false := beq_nat (y := 281474976710655) hbc
          have hF : forB A B = false := by unfold forB; simp [hAB, hbc]
          rw [hF] at FF
          rcases PS with ⟨P, p1, p2⟩ | p1
          · exact texts_oy a b t f k A B d s w hb1 hb2 _ _ zX ea eb e1 e2 hXY TA TB PA P p1 p2 FF G
          · exact texts_on a b t f k A B d s w hb1 hb2 _ _ zX ea eb e1 e2 hXY TA TB PA 0 p1 FF G

end Go.Proofs.Ytdgjoconppmihaa
