/- The contract of the document's Encode of a packet, over the loaded program; no memory that was there has turned. Conditions: numbers in their kinds' bounds. -/
import Derived.Test.YtkmhhlimhiiciaaRa8
namespace Go.Proofs.Ytkmhhlimhiiciaa
open Go.RowKit

theorem cat_assoc (a b c : ByteArray) : a ++ b ++ c = a ++ (b ++ c) := by
  apply ByteArray.ext
  rw [ByteArray.data_append, ByteArray.data_append, ByteArray.data_append, ByteArray.data_append, Array.append_assoc]

set_option maxHeartbeats 1000000 in
theorem renc_n (o f i t j : Nat) (w : World) (n1 : ((o : Int) != 1) = true) (n2 : ((o : Int) != 2) = true) :
    Calls Try.prog 9 #[ar o f i t j] w fun e w' => e = .returned (.tuple #[.string ⟨#[]⟩, .int .i64 2]) ∧ Below w.heap.size w w' := by
  have BEL := hide (below_one w (.cells #[.int .u16 (o : Int), .int .u64 (f : Int), .int .u32 (i : Int), .int .u64 (t : Int), .int .u32 (j : Int)] 27))
  go_enter Try.func9, Try.ntmps9
  go_wp2_with fail
  go_ret2
  exact ⟨rfl, unhide BEL⟩

set_option maxHeartbeats 1000000 in
theorem renc_f1 (o f i t j : Nat) (w : World) (n1 : ((o : Int) != 1) = false) (hf : decide ((281474976710656 : Int) ≤ (f : Int)) = true) :
    Calls Try.prog 9 #[ar o f i t j] w fun e w' => e = .returned (.tuple #[.string ⟨#[]⟩, .int .i64 2]) ∧ Below w.heap.size w w' := by
  have BEL := hide (below_one w (.cells #[.int .u16 (o : Int), .int .u64 (f : Int), .int .u32 (i : Int), .int .u64 (t : Int), .int .u32 (j : Int)] 27))
  go_enter Try.func9, Try.ntmps9
  go_wp2_with fail
  go_ret2
  exact ⟨rfl, unhide BEL⟩

set_option maxHeartbeats 1000000 in
theorem renc_t1 (o f i t j : Nat) (w : World) (n1 : ((o : Int) != 1) = false) (hf : decide ((281474976710656 : Int) ≤ (f : Int)) = false) (ht : decide ((281474976710656 : Int) ≤ (t : Int)) = true) :
    Calls Try.prog 9 #[ar o f i t j] w fun e w' => e = .returned (.tuple #[.string ⟨#[]⟩, .int .i64 2]) ∧ Below w.heap.size w w' := by
  have BEL := hide (below_one w (.cells #[.int .u16 (o : Int), .int .u64 (f : Int), .int .u32 (i : Int), .int .u64 (t : Int), .int .u32 (j : Int)] 27))
  go_enter Try.func9, Try.ntmps9
  go_wp2_with fail
  go_ret2
  exact ⟨rfl, unhide BEL⟩

set_option maxHeartbeats 1000000 in
theorem renc_f2 (o f i t j : Nat) (w : World) (n1 : ((o : Int) != 1) = true) (n2 : ((o : Int) != 2) = false) (hf : decide ((281474976710656 : Int) ≤ (f : Int)) = true) :
    Calls Try.prog 9 #[ar o f i t j] w fun e w' => e = .returned (.tuple #[.string ⟨#[]⟩, .int .i64 2]) ∧ Below w.heap.size w w' := by
  have BEL := hide (below_one w (.cells #[.int .u16 (o : Int), .int .u64 (f : Int), .int .u32 (i : Int), .int .u64 (t : Int), .int .u32 (j : Int)] 27))
  go_enter Try.func9, Try.ntmps9
  go_wp2_with fail
  go_ret2
  exact ⟨rfl, unhide BEL⟩

set_option maxHeartbeats 1000000 in
theorem renc_t2 (o f i t j : Nat) (w : World) (n1 : ((o : Int) != 1) = true) (n2 : ((o : Int) != 2) = false) (hf : decide ((281474976710656 : Int) ≤ (f : Int)) = false) (ht : decide ((281474976710656 : Int) ≤ (t : Int)) = true) :
    Calls Try.prog 9 #[ar o f i t j] w fun e w' => e = .returned (.tuple #[.string ⟨#[]⟩, .int .i64 2]) ∧ Below w.heap.size w w' := by
  have BEL := hide (below_one w (.cells #[.int .u16 (o : Int), .int .u64 (f : Int), .int .u32 (i : Int), .int .u64 (t : Int), .int .u32 (j : Int)] 27))
  go_enter Try.func9, Try.ntmps9
  go_wp2_with fail
  go_ret2
  exact ⟨rfl, unhide BEL⟩

set_option maxRecDepth 20000 in
set_option maxHeartbeats 2000000 in
theorem renc_ok1 (o f i t j : Nat) (w : World) (ho : o < 65536) (hf0 : f < 18446744073709551616) (hi : i < 4294967296) (ht0 : t < 18446744073709551616) (hj : j < 4294967296) (n1 : ((o : Int) != 1) = false) (hf : decide ((281474976710656 : Int) ≤ (f : Int)) = false) (ht : decide ((281474976710656 : Int) ≤ (t : Int)) = false) :
    Calls Try.prog 9 #[ar o f i t j] w fun e w' => e = .returned (.tuple #[.string (hd ++ by2 o ++ by6 f ++ by4 i ++ by6 t ++ by4 j), .int .i64 0]) ∧ Below w.heap.size w w' := by
  have K := hide ((Tab.zero w).alloc rfl (arL o f i t j) 27)
  have H1 : Hid (∀ w, Calls Try.prog 26 #[.int .u64 (o : Int), .int .i64 2] w fun e w' => e = .returned (.string (by2 o)) ∧ Below w.heap.size w w') := fun w => Of_any o 2 w (by omega) (by omega)
  have H2 : Hid (∀ w, Calls Try.prog 26 #[.int .u64 (f : Int), .int .i64 6] w fun e w' => e = .returned (.string (by6 f)) ∧ Below w.heap.size w w') := fun w => Of_any f 6 w (by omega) (by omega)
  have H3 : Hid (∀ w, Calls Try.prog 26 #[.int .u64 (i : Int), .int .i64 4] w fun e w' => e = .returned (.string (by4 i)) ∧ Below w.heap.size w w') := fun w => Of_any i 4 w (by omega) (by omega)
  have H4 : Hid (∀ w, Calls Try.prog 26 #[.int .u64 (t : Int), .int .i64 6] w fun e w' => e = .returned (.string (by6 t)) ∧ Below w.heap.size w w') := fun w => Of_any t 6 w (by omega) (by omega)
  have H5 : Hid (∀ w, Calls Try.prog 26 #[.int .u64 (j : Int), .int .i64 4] w fun e w' => e = .returned (.string (by4 j)) ∧ Below w.heap.size w w') := fun w => Of_any j 4 w (by omega) (by omega)
  have wo : IntKind.u64.wrap (o : Int) = (o : Int) := by rw [IntKind.wrap_u64]; omega
  have wi : IntKind.u64.wrap (i : Int) = (i : Int) := by rw [IntKind.wrap_u64]; omega
  have wj : IntKind.u64.wrap (j : Int) = (j : Int) := by rw [IntKind.wrap_u64]; omega
  unfold hd
  have z1 := Nat.le_of_eq (by2_size o)
  have z2 := Nat.le_of_eq (by6_size f)
  have z3 := Nat.le_of_eq (by4_size i)
  have z4 := Nat.le_of_eq (by6_size t)
  have z5 := Nat.le_of_eq (by4_size j)
  clear ho hf0 hi ht0 hj
  generalize by2 o = A at *
  generalize by6 f = C at *
  generalize by4 i = D at *
  generalize by6 t = M at *
  generalize by4 j = N at *
  obtain ⟨P1, g1⟩ : ∃ P, (⟨#[0, 1, 8, 0, 6, 4]⟩ : ByteArray) ++ A = P := ⟨_, rfl⟩
  have t1 : P1.size ≤ 8 := by rw [← g1, ByteArray.size_append]; have : (⟨#[0, 1, 8, 0, 6, 4]⟩ : ByteArray).size = 6 := rfl; omega
  obtain ⟨P2, g2⟩ : ∃ P, P1 ++ C = P := ⟨_, rfl⟩
  have t2 : P2.size ≤ 14 := by rw [← g2, ByteArray.size_append]; omega
  obtain ⟨P3, g3⟩ : ∃ P, P2 ++ D = P := ⟨_, rfl⟩
  have t3 : P3.size ≤ 18 := by rw [← g3, ByteArray.size_append]; omega
  obtain ⟨P4, g4⟩ : ∃ P, P3 ++ M = P := ⟨_, rfl⟩
  have t4 : P4.size ≤ 24 := by rw [← g4, ByteArray.size_append]; omega
  obtain ⟨P5, g5⟩ : ∃ P, P4 ++ N = P := ⟨_, rfl⟩
  rw [g1, g2, g3, g4, g5]
  have m1 : ¬ 9223372036854775807 < 6 + A.size := by omega
  have m2 : ¬ 9223372036854775807 < P1.size + C.size := by omega
  have m3 : ¬ 9223372036854775807 < P2.size + D.size := by omega
  have m4 : ¬ 9223372036854775807 < P3.size + M.size := by omega
  have m5 : ¬ 9223372036854775807 < P4.size + N.size := by omega
  clear z1 z2 z3 z4 z5 t1 t2 t3 t4
  go_enter Try.func9, Try.ntmps9
  go_wp2_with fail
  have k1 := unhide K
  clear K
  generalize w.alloc (.cells #[.int .u16 (o : Int), .int .u64 (f : Int), .int .u32 (i : Int), .int .u64 (t : Int), .int .u32 (j : Int)] 27) = w1 at *
  obtain ⟨x0, x1, x2, x3, x4⟩ := k1.five0 rfl rfl rfl rfl rfl
  have c0 := cell_regrown x0
  have c1 := cell_regrown x1
  have c2 := cell_regrown x2
  have c3 := cell_regrown x3
  have c4 := cell_regrown x4
  have BEL := hide k1.bel
  clear k1 x0 x1 x2 x3 x4
  have q1 := rgB (w := w1) (unhide H1)
  have q2 := rgB (w := w1) (unhide H2)
  have q3 := rgB (w := w1) (unhide H3)
  have q4 := rgB (w := w1) (unhide H4)
  have q5 := rgB (w := w1) (unhide H5)
  refine wp_region_quiet_below (by kernel_rfl) (by kernel_rfl) ?_
  repeat (quiet_step (fail))
  quiet_step (exact q1 _ _)
  repeat (quiet_step (fail))
  quiet_step (exact q2 _ _)
  repeat (quiet_step (fail))
  quiet_step (exact q3 _ _)
  repeat (quiet_step (fail))
  quiet_step (exact q4 _ _)
  repeat (quiet_step (fail))
  quiet_step (exact q5 _ _)
  repeat (quiet_step (fail))
  refine wpQuiet_nil ?_
  intro _ hw'
  obtain ⟨⟨dq, osq⟩, hw''⟩ := hw'
  subst hw''
  go_wp2
  go_ret2
  exact ⟨rfl, tr2 (unhide BEL) (below_regrown w1 dq osq)⟩

set_option maxRecDepth 20000 in
set_option maxHeartbeats 2000000 in
theorem renc_ok2 (o f i t j : Nat) (w : World) (ho : o < 65536) (hf0 : f < 18446744073709551616) (hi : i < 4294967296) (ht0 : t < 18446744073709551616) (hj : j < 4294967296) (n1 : ((o : Int) != 1) = true) (n2 : ((o : Int) != 2) = false) (hf : decide ((281474976710656 : Int) ≤ (f : Int)) = false) (ht : decide ((281474976710656 : Int) ≤ (t : Int)) = false) :
    Calls Try.prog 9 #[ar o f i t j] w fun e w' => e = .returned (.tuple #[.string (hd ++ by2 o ++ by6 f ++ by4 i ++ by6 t ++ by4 j), .int .i64 0]) ∧ Below w.heap.size w w' := by
  have K := hide ((Tab.zero w).alloc rfl (arL o f i t j) 27)
  have H1 : Hid (∀ w, Calls Try.prog 26 #[.int .u64 (o : Int), .int .i64 2] w fun e w' => e = .returned (.string (by2 o)) ∧ Below w.heap.size w w') := fun w => Of_any o 2 w (by omega) (by omega)
  have H2 : Hid (∀ w, Calls Try.prog 26 #[.int .u64 (f : Int), .int .i64 6] w fun e w' => e = .returned (.string (by6 f)) ∧ Below w.heap.size w w') := fun w => Of_any f 6 w (by omega) (by omega)
  have H3 : Hid (∀ w, Calls Try.prog 26 #[.int .u64 (i : Int), .int .i64 4] w fun e w' => e = .returned (.string (by4 i)) ∧ Below w.heap.size w w') := fun w => Of_any i 4 w (by omega) (by omega)
  have H4 : Hid (∀ w, Calls Try.prog 26 #[.int .u64 (t : Int), .int .i64 6] w fun e w' => e = .returned (.string (by6 t)) ∧ Below w.heap.size w w') := fun w => Of_any t 6 w (by omega) (by omega)
  have H5 : Hid (∀ w, Calls Try.prog 26 #[.int .u64 (j : Int), .int .i64 4] w fun e w' => e = .returned (.string (by4 j)) ∧ Below w.heap.size w w') := fun w => Of_any j 4 w (by omega) (by omega)
  have wo : IntKind.u64.wrap (o : Int) = (o : Int) := by rw [IntKind.wrap_u64]; omega
  have wi : IntKind.u64.wrap (i : Int) = (i : Int) := by rw [IntKind.wrap_u64]; omega
  have wj : IntKind.u64.wrap (j : Int) = (j : Int) := by rw [IntKind.wrap_u64]; omega
  unfold hd
  have z1 := Nat.le_of_eq (by2_size o)
  have z2 := Nat.le_of_eq (by6_size f)
  have z3 := Nat.le_of_eq (by4_size i)
  have z4 := Nat.le_of_eq (by6_size t)
  have z5 := Nat.le_of_eq (by4_size j)
  clear ho hf0 hi ht0 hj
  generalize by2 o = A at *
  generalize by6 f = C at *
  generalize by4 i = D at *
  generalize by6 t = M at *
  generalize by4 j = N at *
  obtain ⟨P1, g1⟩ : ∃ P, (⟨#[0, 1, 8, 0, 6, 4]⟩ : ByteArray) ++ A = P := ⟨_, rfl⟩
  have t1 : P1.size ≤ 8 := by rw [← g1, ByteArray.size_append]; have : (⟨#[0, 1, 8, 0, 6, 4]⟩ : ByteArray).size = 6 := rfl; omega
  obtain ⟨P2, g2⟩ : ∃ P, P1 ++ C = P := ⟨_, rfl⟩
  have t2 : P2.size ≤ 14 := by rw [← g2, ByteArray.size_append]; omega
  obtain ⟨P3, g3⟩ : ∃ P, P2 ++ D = P := ⟨_, rfl⟩
  have t3 : P3.size ≤ 18 := by rw [← g3, ByteArray.size_append]; omega
  obtain ⟨P4, g4⟩ : ∃ P, P3 ++ M = P := ⟨_, rfl⟩
  have t4 : P4.size ≤ 24 := by rw [← g4, ByteArray.size_append]; omega
  obtain ⟨P5, g5⟩ : ∃ P, P4 ++ N = P := ⟨_, rfl⟩
  rw [g1, g2, g3, g4, g5]
  have m1 : ¬ 9223372036854775807 < 6 + A.size := by omega
  have m2 : ¬ 9223372036854775807 < P1.size + C.size := by omega
  have m3 : ¬ 9223372036854775807 < P2.size + D.size := by omega
  have m4 : ¬ 9223372036854775807 < P3.size + M.size := by omega
  have m5 : ¬ 9223372036854775807 < P4.size + N.size := by omega
  clear z1 z2 z3 z4 z5 t1 t2 t3 t4
  go_enter Try.func9, Try.ntmps9
  go_wp2_with fail
  have k1 := unhide K
  clear K
  generalize w.alloc (.cells #[.int .u16 (o : Int), .int .u64 (f : Int), .int .u32 (i : Int), .int .u64 (t : Int), .int .u32 (j : Int)] 27) = w1 at *
  obtain ⟨x0, x1, x2, x3, x4⟩ := k1.five0 rfl rfl rfl rfl rfl
  have c0 := cell_regrown x0
  have c1 := cell_regrown x1
  have c2 := cell_regrown x2
  have c3 := cell_regrown x3
  have c4 := cell_regrown x4
  have BEL := hide k1.bel
  clear k1 x0 x1 x2 x3 x4
  have q1 := rgB (w := w1) (unhide H1)
  have q2 := rgB (w := w1) (unhide H2)
  have q3 := rgB (w := w1) (unhide H3)
  have q4 := rgB (w := w1) (unhide H4)
  have q5 := rgB (w := w1) (unhide H5)
  refine wp_region_quiet_below (by kernel_rfl) (by kernel_rfl) ?_
  repeat (quiet_step (fail))
  quiet_step (exact q1 _ _)
  repeat (quiet_step (fail))
  quiet_step (exact q2 _ _)
  repeat (quiet_step (fail))
  quiet_step (exact q3 _ _)
  repeat (quiet_step (fail))
  quiet_step (exact q4 _ _)
  repeat (quiet_step (fail))
  quiet_step (exact q5 _ _)
  repeat (quiet_step (fail))
  refine wpQuiet_nil ?_
  intro _ hw'
  obtain ⟨⟨dq, osq⟩, hw''⟩ := hw'
  subst hw''
  go_wp2
  go_ret2
  exact ⟨rfl, tr2 (unhide BEL) (below_regrown w1 dq osq)⟩

theorem encB_flat (o f i t j : Nat) : hd ++ by2 o ++ by6 f ++ by4 i ++ by6 t ++ by4 j = encB o f i t j := by
  unfold encB
  simp only [cat_assoc]
theorem ne1 {o : Nat} {b : Bool} (h : (o == 1) = b) : ((o : Int) != 1) = !b := by unfold bne; rw [eqI1, h]
theorem ne2 {o : Nat} {b : Bool} (h : (o == 2) = b) : ((o : Int) != 2) = !b := by unfold bne; rw [eqI2, h]
theorem rencode_any (o f i t j : Nat) (w : World) (ho : o < 65536) (hf : f < 18446744073709551616) (hi : i < 4294967296) (ht : t < 18446744073709551616) (hj : j < 4294967296) {s : ByteArray} {e : Int} (h : EncIs o f i t j s e) :
    Calls Try.prog 9 #[ar o f i t j] w fun x w' => x = .returned (.tuple #[.string s, .int .i64 e]) ∧ Below w.heap.size w w' := by
  have hk : kn o = (o == 1 || o == 2) := rfl
  cases k1 : (o == 1)
  · cases k2 : (o == 2)
    · rw [k1, k2] at hk
      rcases h with ⟨_, rfl, rfl⟩ | ⟨⟨h1, _⟩, _⟩
      · exact renc_n o f i t j w (ne1 k1) (ne2 k2)
      · rw [h1] at hk; cases hk
    · rw [k1, k2] at hk
      rcases h with ⟨h, rfl, rfl⟩ | ⟨⟨_, h2, h3⟩, rfl, rfl⟩
      · by_cases hF : 281474976710656 ≤ f
        · exact renc_f2 o f i t j w (ne1 k1) (ne2 k2) (decide_eq_true (by omega))
        · have hT : 281474976710656 ≤ t := by rcases h with h | h | h; rw [h] at hk; cases hk; omega; exact h
          exact renc_t2 o f i t j w (ne1 k1) (ne2 k2) (decide_eq_false (by omega)) (decide_eq_true (by omega))
      · rw [← encB_flat]
        exact renc_ok2 o f i t j w ho hf hi ht hj (ne1 k1) (ne2 k2) (decide_eq_false (by omega)) (decide_eq_false (by omega))
  · rw [k1, Bool.true_or] at hk
    rcases h with ⟨h, rfl, rfl⟩ | ⟨⟨_, h2, h3⟩, rfl, rfl⟩
    · by_cases hF : 281474976710656 ≤ f
      · exact renc_f1 o f i t j w (ne1 k1) (decide_eq_true (by omega))
      · have hT : 281474976710656 ≤ t := by rcases h with h | h | h; rw [h] at hk; cases hk; omega; exact h
        exact renc_t1 o f i t j w (ne1 k1) (decide_eq_false (by omega)) (decide_eq_true (by omega))
    · rw [← encB_flat]
      exact renc_ok1 o f i t j w ho hf hi ht hj (ne1 k1) (decide_eq_false (by omega)) (decide_eq_false (by omega))

end Go.Proofs.Ytkmhhlimhiiciaa
