/- The contract of the document's Encode (layer 7), over the loaded program; no memory that was there has turned. Conditions: numbers in their kinds' bounds, texts of bounded length. -/
import Derived.Test.YtdgjoconppmihaaRf7
namespace Go.Proofs.Ytdgjoconppmihaa
open Go.RowKit

theorem made_one (z : Value) (n : Nat) : madeCells #[z] n = Array.replicate n z := by
  apply Array.ext
  · rw [size_madeCells, Array.size_replicate]
  · intro i h1 h2
    have e : i % 1 = 0 := Nat.mod_one i
    simp [madeCells, e]
/-- so many cells 0 -/
def zc (n : Nat) : Obj := .cells (Array.replicate n (.int .u8 0)) 5
theorem mkz (n : Nat) (hn : n ≤ 1000000) (w : World) : (Instr.makeSlice 46 (.int .i64 (n : Int)) (.int .i64 (n : Int))).run Try.prog w = .ok (.slice (some ⟨w.heap.size, 0, none⟩) n n) (w.alloc (zc n)) := by
  obtain ⟨i0, hi, hz0, hz1, hz2⟩ := info_parts (P := Try.prog) (e := 5) (z := .int .u8 0) (size := 1) (bytes := 1) (by kernel_rfl)
  have h := run_make (P := Try.prog) w 46 5 i0 (.int .u8 0) Try.underlying46 hi hz0 .i64 .i64 (n : Int) (n : Int) (by omega) (by omega) (by rw [hz2]; omega) (by omega)
  rw [hz1, show (Value.int .u8 0).cells = #[.int .u8 0] from rfl, made_one] at h
  unfold zc
  simpa using h
theorem cvz (n : Nat) (W : World) : (convert 46 9 (.slice (some ⟨W.heap.size, 0, none⟩) n n)).run Try.prog (W.alloc (zc n)) = .ok (.string (zs n)) (W.alloc (zc n)) := by
  have h := run_convert_bytes_back (P := Try.prog) (W.alloc (zc n)) 46 9 5 ⟨W.heap.size, 0, none⟩ n (List.replicate n 0) Try.underlying46 Try.underlying5 Try.underlying9 (fun j hj => by
    have hj' : j < n := by simpa using hj
    have ha : (⟨W.heap.size, 0, none⟩ : Addr).add j = ⟨W.heap.size, j, none⟩ := by unfold Addr.add; split <;> simp_all
    rw [ha]
    unfold zc
    rw [cell_of_row _ _ j _ _ _ (heap_alloc_new W _)]
    simp [hj'])
  rw [List.length_replicate] at h
  exact h

set_option maxHeartbeats 1000000 in
theorem renc_arg1 (t f k : Nat) (d : ByteArray) (w : World) (h : (281474976710656 : Int) ≤ (t : Int)) :
    Calls Try.prog 11 #[fr t f k d] w fun e w' => e = .returned (.tuple #[.string ⟨#[]⟩, .int .i64 2]) ∧ Below w.heap.size w w' := by
  have BEL := hide (below_one w (.cells #[.int .u64 (t : Int), .int .u64 (f : Int), .int .u16 (k : Int), .string d] 26))
  go_enter Try.func11, Try.ntmps11
  go_wp2_with fail
  go_ret2
  exact ⟨rfl, unhide BEL⟩

set_option maxHeartbeats 1000000 in
theorem renc_arg2 (t f k : Nat) (d : ByteArray) (w : World) (h0 : (t : Int) < 281474976710656) (h : (281474976710656 : Int) ≤ (f : Int)) :
    Calls Try.prog 11 #[fr t f k d] w fun e w' => e = .returned (.tuple #[.string ⟨#[]⟩, .int .i64 2]) ∧ Below w.heap.size w w' := by
  have BEL := hide (below_one w (.cells #[.int .u64 (t : Int), .int .u64 (f : Int), .int .u16 (k : Int), .string d] 26))
  go_enter Try.func11, Try.ntmps11
  go_wp2_with fail
  go_ret2
  exact ⟨rfl, unhide BEL⟩

set_option maxHeartbeats 1000000 in
theorem renc_arg3 (t f k : Nat) (d : ByteArray) (w : World) (h0 : (t : Int) < 281474976710656) (h : (f : Int) < 281474976710656)
    (H1 : Hid (∀ w, Calls Try.prog 25 #[.int .u64 (f : Int)] w fun e w' => e = .returned (.bool true) ∧ w' = w)) :
    Calls Try.prog 11 #[fr t f k d] w fun e w' => e = .returned (.tuple #[.string ⟨#[]⟩, .int .i64 2]) ∧ Below w.heap.size w w' := by
  have BEL := hide (below_one w (.cells #[.int .u64 (t : Int), .int .u64 (f : Int), .int .u16 (k : Int), .string d] 26))
  have e1 : decide ((281474976710656 : Int) ≤ (t : Int)) = false := decide_eq_false (by omega)
  have e2 : decide ((281474976710656 : Int) ≤ (f : Int)) = false := decide_eq_false (by omega)
  clear h0 h
  go_enter Try.func11, Try.ntmps11
  go_wp2_with fail
  refine (unhide H1 _).mono ?_
  rintro e w2 ⟨rfl, rfl⟩
  go_wp2_with fail
  go_ret2
  exact ⟨rfl, unhide BEL⟩

set_option maxHeartbeats 1000000 in
theorem renc_long (t f k : Nat) (d : ByteArray) (w : World) (h0 : (t : Int) < 281474976710656) (h : (f : Int) < 281474976710656) (hd : (65535 : Int) < (d.size : Int))
    (H1 : Hid (∀ w, Calls Try.prog 25 #[.int .u64 (f : Int)] w fun e w' => e = .returned (.bool false) ∧ w' = w)) :
    Calls Try.prog 11 #[fr t f k d] w fun e w' => e = .returned (.tuple #[.string ⟨#[]⟩, .int .i64 4]) ∧ Below w.heap.size w w' := by
  have BEL := hide (below_one w (.cells #[.int .u64 (t : Int), .int .u64 (f : Int), .int .u16 (k : Int), .string d] 26))
  have HD : Hid (65535 < d.size) := (show 65535 < d.size by omega)
  clear hd
  have e1 : decide ((281474976710656 : Int) ≤ (t : Int)) = false := decide_eq_false (by omega)
  have e2 : decide ((281474976710656 : Int) ≤ (f : Int)) = false := decide_eq_false (by omega)
  clear h0 h
  go_enter Try.func11, Try.ntmps11
  go_wp2_with fail
  refine (unhide H1 _).mono ?_
  rintro e w2 ⟨rfl, rfl⟩
  have hd := unhide HD
  clear H1
  go_wp2_with fail
  go_ret2
  exact ⟨rfl, unhide BEL⟩

theorem cat_nil (a : ByteArray) : a ++ (⟨#[]⟩ : ByteArray) = a := by
  apply ByteArray.ext
  rw [ByteArray.data_append]
  simp

set_option maxRecDepth 20000 in
set_option maxHeartbeats 2000000 in
theorem renc_full (t f k : Nat) (d : ByteArray) (w : World) (h0 : (t : Int) < 281474976710656) (h : (f : Int) < 281474976710656) (hk : k < 65536) (hm : (d.size : Int) ≤ 65535) (hm2 : (46 : Int) ≤ (d.size : Int))
    (H1 : Hid (∀ w, Calls Try.prog 25 #[.int .u64 (f : Int)] w fun e w' => e = .returned (.bool false) ∧ w' = w)) :
    Calls Try.prog 11 #[fr t f k d] w fun e w' => e = .returned (.tuple #[.string (encB t f k d), .int .i64 0]) ∧ Below w.heap.size w w' := by
  have K := hide (box_start w t f k d 26)
  have H5 : Hid (∀ w, Calls Try.prog 26 #[.int .u64 (t : Int), .int .i64 6] w fun e w' => e = .returned (.string (by6 t)) ∧ Below w.heap.size w w') := fun w => Of_any t 6 w (by omega) (by omega)
  have H6 : Hid (∀ w, Calls Try.prog 26 #[.int .u64 (f : Int), .int .i64 6] w fun e w' => e = .returned (.string (by6 f)) ∧ Below w.heap.size w w') := fun w => Of_any f 6 w (by omega) (by omega)
  have H7 : Hid (∀ w, Calls Try.prog 26 #[.int .u64 (k : Int), .int .i64 2] w fun e w' => e = .returned (.string (by2 k)) ∧ Below w.heap.size w w') := fun w => Of_any k 2 w (by omega) (by omega)
  unfold encB
  have z1 := by6_size t
  have z2 := by6_size f
  have z3 := by2_size k
  have z4 := Nat.le_of_eq (zs_size (60 - (14 + d.size)))
  have z5 : 60 - (14 + d.size) ≤ 46 := by omega
  obtain ⟨P1, g1⟩ : ∃ P, by6 t ++ by6 f = P := ⟨_, rfl⟩
  have t1 : P1.size = 12 := by rw [← g1, ByteArray.size_append]; omega
  obtain ⟨P2, g2⟩ : ∃ P, P1 ++ by2 k = P := ⟨_, rfl⟩
  have t2 : P2.size = 14 := by rw [← g2, ByteArray.size_append]; omega
  obtain ⟨P3, g3⟩ : ∃ P, P2 ++ d = P := ⟨_, rfl⟩
  have t3 : P3.size = 14 + d.size := by rw [← g3, ByteArray.size_append]; omega
  rw [g1, g2, g3]
  rw [show 60 - (14 + d.size) = 0 from by omega, show zs 0 = ⟨#[]⟩ from rfl, cat_nil]
  have hlt : 60 ≤ P3.size := by omega
  have Z1 := hide (Nat.le_of_eq z1)
  have Z2 := hide (Nat.le_of_eq z2)
  have Z3 := hide (Nat.le_of_eq z3)
  have T1 := hide (Nat.le_of_eq t1)
  have T2 := hide (Nat.le_of_eq t2)
  have T3 : Hid (P3.size ≤ 65549) := (show P3.size ≤ 65549 by omega)
  have Z4 := hide z4
  have Z5 := hide z5
  have HLT := hide hlt
  clear z1 z2 z3 t1 t2 t3 z4 z5 hlt
  generalize by6 t = A at *
  generalize by6 f = C at *
  generalize by2 k = D at *
  have wk : IntKind.u64.wrap (k : Int) = (k : Int) := by rw [IntKind.wrap_u64]; omega
  have hg : decide ((65535 : Int) < (d.size : Int)) = false := decide_eq_false (by omega)
  have HM := hide hm
  clear hm hm2
  have e1 : decide ((281474976710656 : Int) ≤ (t : Int)) = false := decide_eq_false (by omega)
  have e2 : decide ((281474976710656 : Int) ≤ (f : Int)) = false := decide_eq_false (by omega)
  clear h0 h
  go_enter Try.func11, Try.ntmps11
  go_wp2_with fail
  refine (unhide H1 _).mono ?_
  rintro e w2 ⟨rfl, rfl⟩
  clear H1
  go_wp2_with fail
  have z1 := unhide Z1
  have z2 := unhide Z2
  have z3 := unhide Z3
  have t1 := unhide T1
  have t2 := unhide T2
  have t3 := unhide T3
  have z4 := unhide Z4
  have z5 := unhide Z5
  have hlt := unhide HLT
  have hm := unhide HM
  have n1 : ¬ 9223372036854775807 < A.size + C.size := by omega
  have n2 : ¬ 9223372036854775807 < P1.size + D.size := by omega
  have n3 : ¬ 9223372036854775807 < P2.size + d.size := by omega
  have k1 := unhide K
  clear K
  generalize w.alloc (.cells #[.int .u64 (t : Int), .int .u64 (f : Int), .int .u16 (k : Int), .string d] 26) = w1 at *
  have c0 := cell_regrown (k1.cells 0 0 _ rfl)
  have c1 := cell_regrown (k1.cells 0 1 _ rfl)
  have c2 := cell_regrown (k1.cells 0 2 _ rfl)
  have c3 := cell_regrown (k1.cells 0 3 _ rfl)
  simp only [Nat.add_zero] at c0 c1 c2 c3
  have BEL := hide k1.bel
  clear k1
  have q1 := rgB (w := w1) (unhide H5)
  have q2 := rgB (w := w1) (unhide H6)
  have q3 := rgB (w := w1) (unhide H7)
  refine wp_region_quiet_below (by kernel_rfl) (by kernel_rfl) ?_
  repeat (quiet_step (fail))
  quiet_step (exact q1 _ _)
  repeat (quiet_step (fail))
  quiet_step (exact q2 _ _)
  repeat (quiet_step (fail))
  quiet_step (exact q3 _ _)
  repeat (quiet_step (fail))
  refine wpQuiet_nil ?_
  intro _ hw'
  obtain ⟨⟨dq, osq⟩, hw''⟩ := hw'
  subst hw''
  have BEL2 := hide (tr2 (unhide BEL) (below_regrown w1 dq osq))
  generalize Sort.grow (redrawn w1 dq) osq = w5 at *
  go_wp2
  go_ret2
  exact ⟨rfl, unhide BEL2⟩

set_option maxRecDepth 20000 in
set_option maxHeartbeats 2000000 in
theorem renc_short (t f k : Nat) (d : ByteArray) (w : World) (h0 : (t : Int) < 281474976710656) (h : (f : Int) < 281474976710656) (hk : k < 65536) (hm : (d.size : Int) < 46)
    (H1 : Hid (∀ w, Calls Try.prog 25 #[.int .u64 (f : Int)] w fun e w' => e = .returned (.bool false) ∧ w' = w)) :
    Calls Try.prog 11 #[fr t f k d] w fun e w' => e = .returned (.tuple #[.string (encB t f k d), .int .i64 0]) ∧ Below w.heap.size w w' := by
  have K := hide (box_start w t f k d 26)
  have H5 : Hid (∀ w, Calls Try.prog 26 #[.int .u64 (t : Int), .int .i64 6] w fun e w' => e = .returned (.string (by6 t)) ∧ Below w.heap.size w w') := fun w => Of_any t 6 w (by omega) (by omega)
  have H6 : Hid (∀ w, Calls Try.prog 26 #[.int .u64 (f : Int), .int .i64 6] w fun e w' => e = .returned (.string (by6 f)) ∧ Below w.heap.size w w') := fun w => Of_any f 6 w (by omega) (by omega)
  have H7 : Hid (∀ w, Calls Try.prog 26 #[.int .u64 (k : Int), .int .i64 2] w fun e w' => e = .returned (.string (by2 k)) ∧ Below w.heap.size w w') := fun w => Of_any k 2 w (by omega) (by omega)
  unfold encB
  have z1 := by6_size t
  have z2 := by6_size f
  have z3 := by2_size k
  have z4 := Nat.le_of_eq (zs_size (60 - (14 + d.size)))
  have z5 : 60 - (14 + d.size) ≤ 46 := by omega
  obtain ⟨P1, g1⟩ : ∃ P, by6 t ++ by6 f = P := ⟨_, rfl⟩
  have t1 : P1.size = 12 := by rw [← g1, ByteArray.size_append]; omega
  obtain ⟨P2, g2⟩ : ∃ P, P1 ++ by2 k = P := ⟨_, rfl⟩
  have t2 : P2.size = 14 := by rw [← g2, ByteArray.size_append]; omega
  obtain ⟨P3, g3⟩ : ∃ P, P2 ++ d = P := ⟨_, rfl⟩
  have t3 : P3.size = 14 + d.size := by rw [← g3, ByteArray.size_append]; omega
  rw [g1, g2, g3]
  have HSZ : Hid ((60 : Int) - (P3.size : Int) = ((60 - (14 + d.size) : Nat) : Int)) := by show (60 : Int) - (P3.size : Int) = _; omega
  have hlt : P3.size < 60 := by omega
  have hmk := fun w => mkz (60 - (14 + d.size)) (by omega) w
  have hcv := fun w => cvz (60 - (14 + d.size)) w
  generalize 60 - (14 + d.size) = n at *
  have Z1 := hide (Nat.le_of_eq z1)
  have Z2 := hide (Nat.le_of_eq z2)
  have Z3 := hide (Nat.le_of_eq z3)
  have T1 := hide (Nat.le_of_eq t1)
  have T2 := hide (Nat.le_of_eq t2)
  have T3 : Hid (P3.size ≤ 65549) := (show P3.size ≤ 65549 by omega)
  have Z4 := hide z4
  have Z5 := hide z5
  have HLT := hide hlt
  clear z1 z2 z3 t1 t2 t3 z4 z5 hlt
  generalize by6 t = A at *
  generalize by6 f = C at *
  generalize by2 k = D at *
  have wk : IntKind.u64.wrap (k : Int) = (k : Int) := by rw [IntKind.wrap_u64]; omega
  generalize zs n = Z at *
  have hg : decide ((65535 : Int) < (d.size : Int)) = false := decide_eq_false (by omega)
  have HM := hide hm
  clear hm
  have e1 : decide ((281474976710656 : Int) ≤ (t : Int)) = false := decide_eq_false (by omega)
  have e2 : decide ((281474976710656 : Int) ≤ (f : Int)) = false := decide_eq_false (by omega)
  clear h0 h
  go_enter Try.func11, Try.ntmps11
  go_wp2_with fail
  refine (unhide H1 _).mono ?_
  rintro e w2 ⟨rfl, rfl⟩
  clear H1
  go_wp2_with fail
  have z1 := unhide Z1
  have z2 := unhide Z2
  have z3 := unhide Z3
  have t1 := unhide T1
  have t2 := unhide T2
  have t3 := unhide T3
  have z4 := unhide Z4
  have z5 := unhide Z5
  have hlt := unhide HLT
  have hm := unhide HM
  have n1 : ¬ 9223372036854775807 < A.size + C.size := by omega
  have n2 : ¬ 9223372036854775807 < P1.size + D.size := by omega
  have n3 : ¬ 9223372036854775807 < P2.size + d.size := by omega
  have n4 : ¬ 9223372036854775807 < P3.size + Z.size := by omega
  have k1 := unhide K
  clear K
  generalize w.alloc (.cells #[.int .u64 (t : Int), .int .u64 (f : Int), .int .u16 (k : Int), .string d] 26) = w1 at *
  have c0 := cell_regrown (k1.cells 0 0 _ rfl)
  have c1 := cell_regrown (k1.cells 0 1 _ rfl)
  have c2 := cell_regrown (k1.cells 0 2 _ rfl)
  have c3 := cell_regrown (k1.cells 0 3 _ rfl)
  simp only [Nat.add_zero] at c0 c1 c2 c3
  have BEL := hide k1.bel
  clear k1
  have q1 := rgB (w := w1) (unhide H5)
  have q2 := rgB (w := w1) (unhide H6)
  have q3 := rgB (w := w1) (unhide H7)
  refine wp_region_quiet_below (by kernel_rfl) (by kernel_rfl) ?_
  repeat (quiet_step (fail))
  quiet_step (exact q1 _ _)
  repeat (quiet_step (fail))
  quiet_step (exact q2 _ _)
  repeat (quiet_step (fail))
  quiet_step (exact q3 _ _)
  repeat (quiet_step (fail))
  refine wpQuiet_nil ?_
  intro _ hw'
  obtain ⟨⟨dq, osq⟩, hw''⟩ := hw'
  subst hw''
  have BEL2 := hide (tr2 (unhide BEL) (below_regrown w1 dq osq))
  generalize Sort.grow (redrawn w1 dq) osq = w5 at *
  have hsub : (60 : Int) - (P3.size : Int) = (n : Int) := unhide HSZ
  clear HSZ
  go_wp2
  go_ret2
  exact ⟨rfl, tr2 (unhide BEL2) (below_one _ _)⟩

theorem rencode_any (t f k : Nat) (d : ByteArray) (w : World) (hf : f < 18446744073709551616) (hk : k < 65536) {s : ByteArray} {e : Int} (h : EncIs t f k d s e) :
    Calls Try.prog 11 #[fr t f k d] w fun x w' => x = .returned (.tuple #[.string s, .int .i64 e]) ∧ Below w.heap.size w w' := by
  have hg : ∀ g, grp f = g → ∀ w, Calls Try.prog 25 #[.int .u64 (f : Int)] w fun e w' => e = .returned (.bool g) ∧ w' = w := fun g hg w => by
    have := rgroup_any f w hf
    rw [hg] at this
    exact this
  rcases h with ⟨h, rfl, rfl⟩ | ⟨⟨h1, h2, h3, h4⟩, rfl, rfl⟩ | ⟨⟨h1, h2, h3, h4⟩, rfl, rfl⟩
  · by_cases h1 : 281474976710656 ≤ t
    · exact renc_arg1 t f k d w (by omega)
    · by_cases h2 : 281474976710656 ≤ f
      · exact renc_arg2 t f k d w (by omega) (by omega)
      · exact renc_arg3 t f k d w (by omega) (by omega) (hg true (by rcases h with h | h | h; exact absurd h h1; exact absurd h h2; exact h))
  · exact renc_long t f k d w (by omega) (by omega) (by omega) (hg false h3)
  · by_cases h5 : d.size < 46
    · exact renc_short t f k d w (by omega) (by omega) hk (by omega) (hg false h3)
    · exact renc_full t f k d w (by omega) (by omega) hk (by omega) (by omega) (hg false h3)

end Go.Proofs.Ytdgjoconppmihaa
