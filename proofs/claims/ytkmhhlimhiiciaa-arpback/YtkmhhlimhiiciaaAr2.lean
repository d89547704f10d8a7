/- The contracts of package arp's bytes, readEnd, read, of strings.HasPrefix at the head and of Ask, Call, over the loaded program; no memory that was there has turned. Conditions: numbers in their kinds' bounds, texts of bounded length. -/
import Derived.Test.YtkmhhlimhiiciaaAr1
namespace Go.Proofs.Ytkmhhlimhiiciaa
open Go.RowKit

/-- six bytes, four, and two -/
def by6 (x : Nat) : ByteArray := ⟨(ofB x 6).toArray⟩
def by4 (x : Nat) : ByteArray := ⟨(ofB x 4).toArray⟩
def by2 (x : Nat) : ByteArray := ⟨(ofB x 2).toArray⟩
theorem by6_size (x : Nat) : (by6 x).size = 6 := rfl
theorem by4_size (x : Nat) : (by4 x).size = 4 := rfl
theorem by2_size (x : Nat) : (by2 x).size = 2 := rfl

set_option maxHeartbeats 1000000 in
theorem bytes_any (f i : Nat) (w : World) (hf : f < 18446744073709551616) (hi : i < 4294967296) :
    Calls Try.prog 25 #[en f i] w fun e w' => e = .returned (.string (by6 f ++ by4 i)) ∧ Below w.heap.size w w' := by
  have K := hide ((Tab.zero w).alloc rfl [.int .u64 (f : Int), .int .u32 (i : Int)] 50)
  have H1 : Hid (∀ w, Calls Try.prog 24 #[.int .u64 (f : Int), .int .i64 6] w fun e w' => e = .returned (.string (by6 f)) ∧ Below w.heap.size w w') := fun w => of_6 f w hf
  have H2 : Hid (∀ w, Calls Try.prog 24 #[.int .u64 (i : Int), .int .i64 4] w fun e w' => e = .returned (.string (by4 i)) ∧ Below w.heap.size w w') := fun w => of_4 i w (by omega)
  have z1 := Nat.le_of_eq (by6_size f)
  have z2 := Nat.le_of_eq (by4_size i)
  generalize by6 f = A at *
  generalize by4 i = C at *
  have wk : IntKind.u64.wrap (i : Int) = (i : Int) := by rw [IntKind.wrap_u64]; omega
  have n1 : ¬ 9223372036854775807 < A.size + C.size := by omega
  go_enter Try.func25, Try.ntmps25
  go_wp2_with fail
  have k1 := unhide K
  clear K
  generalize w.alloc (.cells #[.int .u64 (f : Int), .int .u32 (i : Int)] 50) = w1 at *
  have c0 := cell_regrown (k1.cells 0 0 _ rfl)
  have c1 := cell_regrown (k1.cells 0 1 _ rfl)
  simp only [Nat.add_zero] at c0 c1
  have BEL := hide k1.bel
  clear k1
  have q1 := rgB (w := w1) (unhide H1)
  have q2 := rgB (w := w1) (unhide H2)
  refine wp_region_quiet_below (by kernel_rfl) (by kernel_rfl) ?_
  repeat (quiet_step (fail))
  quiet_step (exact q1 _ _)
  repeat (quiet_step (fail))
  quiet_step (exact q2 _ _)
  repeat (quiet_step (fail))
  refine wpQuiet_nil ?_
  intro _ hw'
  obtain ⟨⟨dq, osq⟩, hw''⟩ := hw'
  subst hw''
  go_wp2
  go_ret
  exact ⟨rfl, tr2 (unhide BEL) (below_regrown w1 dq osq)⟩

set_option maxHeartbeats 1000000 in
theorem readEnd_any (s : ByteArray) (k : Nat) (w : World) (hs : s.size ≤ maxLen) (h : k + 10 ≤ s.size) :
    Calls Try.prog 35 #[.string s, .int .i64 (k : Int)] w fun e w' => e = .returned (en (num (fld s k 6)) (num (fld s (k + 6) 4))) ∧ Below w.heap.size w w' := by
  have K := hide ((Tab.zero w).alloc rfl [.int .u64 0, .int .u32 0] 50)
  have H1 := hide (fun w => six_ok s k w hs (by omega))
  have H2 := hide (fun w => four_ok s (k + 6) w hs (by omega))
  rw [show ((k + 6 : Nat) : Int) = (k : Int) + 6 from by omega] at H2
  have hk : (k : Int) + 6 ≤ 9223372036854775807 := by unfold maxLen at hs; omega
  generalize num (fld s k 6) = F at *
  generalize num (fld s (k + 6) 4) = I at *
  clear h hs
  go_enter Try.func35, Try.ntmps35
  go_wp2_with fail
  refine (unhide H1 _).mono ?_
  rintro e w1 ⟨rfl, b1⟩
  have K1 := hide ((unhide K).on b1)
  clear K b1 H1
  go_wp2_with fail
  refine (unhide H2 _).mono ?_
  rintro e w2 ⟨rfl, b2⟩
  have k2 := (unhide K1).on b2
  have e0 := k2.cells 0 0 _ rfl
  have e1 := k2.cells 0 1 _ rfl
  have g0 := k2.free 0 0 _ rfl
  have g1 := k2.free 0 1 _ rfl
  simp only [Nat.add_zero] at e0 e1 g0 g1
  have B2 := hide k2.bel
  clear k2 b2 K1 H2
  go_wp2_with fail
  refine bodyPost_ret (v := en F I) (by simp [results, Try.results35, go_sem, e0, e1]) rfl ⟨rfl, ?_⟩
  exact ((unhide B2).setCell (p := ⟨w.heap.size, 0, none⟩) (Nat.le_refl _) _).setCell (p := ⟨w.heap.size, 1, none⟩) (Nat.le_refl _) _

set_option maxHeartbeats 1000000 in
theorem read_any (s : ByteArray) (w : World) (hs : s.size ≤ maxLen) (h : 28 ≤ s.size) :
    Calls Try.prog 28 #[.string s] w fun e w' => e = .returned (ar (num (fld s 6 2)) (num (fld s 8 6)) (num (fld s 14 4)) (num (fld s 18 6)) (num (fld s 24 4))) ∧ Below w.heap.size w w' := by
  have K := hide ((Tab.zero w).alloc rfl zL 55)
  have H1 : Hid (∀ w, Calls Try.prog 34 #[.string s, .int .i64 6] w fun e w' => e = .returned (.tuple #[.int .u16 (num (fld s 6 2) : Nat), .int .i64 0]) ∧ Below w.heap.size w w') := fun w => two_ok s 6 w hs (by omega)
  have H2 : Hid (∀ w, Calls Try.prog 35 #[.string s, .int .i64 8] w fun e w' => e = .returned (en (num (fld s 8 6)) (num (fld s 14 4))) ∧ Below w.heap.size w w') := fun w => readEnd_any s 8 w hs (by omega)
  have H3 : Hid (∀ w, Calls Try.prog 35 #[.string s, .int .i64 18] w fun e w' => e = .returned (en (num (fld s 18 6)) (num (fld s 24 4))) ∧ Below w.heap.size w w') := fun w => readEnd_any s 18 w hs (by omega)
  generalize num (fld s 6 2) = O at *
  generalize num (fld s 8 6) = F at *
  generalize num (fld s 14 4) = I at *
  generalize num (fld s 18 6) = T at *
  generalize num (fld s 24 4) = J at *
  have H4 := hide (fun w => between_any O F I T J w)
  clear h hs
  go_enter Try.func28, Try.ntmps28
  go_wp2_with fail
  refine (unhide H1 _).mono ?_
  rintro e w1 ⟨rfl, b1⟩
  have K1 := hide ((unhide K).on b1)
  clear K b1 H1
  go_wp2_with fail
  refine (unhide H2 _).mono ?_
  rintro e w2 ⟨rfl, b2⟩
  have K2 := hide ((unhide K1).on b2)
  clear K1 b2 H2
  go_wp2_with fail
  refine (unhide H3 _).mono ?_
  rintro e w3 ⟨rfl, b3⟩
  have K3 := hide ((unhide K2).on b3)
  clear K2 b3 H3
  go_wp2_with fail
  refine (unhide H4 _).mono ?_
  rintro e w4 ⟨rfl, b4⟩
  have k := (unhide K3).on b4
  obtain ⟨e0, e1, e2, e3, e4⟩ := k.five0 rfl rfl rfl rfl rfl
  obtain ⟨g0, g1, g2, g3, g4⟩ := k.free50 rfl rfl rfl rfl rfl
  have B1 := hide k.bel
  clear k K3 b4 H4
  go_wp2_with fail
  refine bodyPost_ret (v := ar O F I T J) (by simp [results, Try.results28, go_sem, e0, e1, e2, e3, e4]) rfl ⟨rfl, ?_⟩
  exact below_set5 (unhide B1) (Nat.le_refl _) _ _ _ _ _

/-- does it begin as each packet does? -/
def isHd (s : ByteArray) : Bool := (s.extract 0 6).toList == [0, 1, 8, 0, 6, 4]

set_option maxHeartbeats 1000000 in
theorem slPrefix_any (s : ByteArray) (w : World) (h : 28 ≤ s.size) :
    Calls Try.prog 33 #[.string s, .string ⟨#[0, 1, 8, 0, 6, 4]⟩] w fun e w' => e = .returned (.bool (isHd s)) ∧ w' = w := by
  go_enter Try.func33, Try.ntmps33
  go_wp2
  go_ret
  exact ⟨rfl, rfl⟩

set_option maxHeartbeats 1000000 in
theorem prefix_any (s : ByteArray) (w : World) (h : 28 ≤ s.size) :
    Calls Try.prog 27 #[.string s, .string ⟨#[0, 1, 8, 0, 6, 4]⟩] w fun e w' => e = .returned (.bool (isHd s)) ∧ w' = w := by
  have H := hide (fun w => slPrefix_any s w h)
  clear h
  generalize isHd s = b at *
  go_enter Try.func27, Try.ntmps27
  go_wp2_with fail
  refine (unhide H _).mono ?_
  rintro e w1 ⟨rfl, rfl⟩
  go_wp2
  go_ret
  exact ⟨rfl, rfl⟩

set_option maxHeartbeats 1000000 in
theorem ask_any (a i j : Nat) (w : World) :
    Calls Try.prog 14 #[.int .u64 (a : Int), .int .u32 (i : Int), .int .u32 (j : Int)] w fun e w' => e = .returned (ar 1 a i 0 j) ∧ Below w.heap.size w w' := by
  have K := hide ((Tab.zero w).alloc rfl zL 27)
  have H1 := hide (fun w => between_any 1 a i 0 j w)
  have H2 := hide (fun w => told_any 1 a i 0 j w)
  go_enter Try.func14, Try.ntmps14
  go_wp2_with fail
  refine (unhide H1 _).mono ?_
  rintro e w1 ⟨rfl, b1⟩
  have K1 := hide ((unhide K).on b1)
  clear K b1 H1
  go_wp2_with fail
  refine (unhide H2 _).mono ?_
  rintro e w2 ⟨rfl, b2⟩
  have k := (unhide K1).on b2
  obtain ⟨e0, e1, e2, e3, e4⟩ := k.five0 rfl rfl rfl rfl rfl
  obtain ⟨g0, g1, g2, g3, g4⟩ := k.free50 rfl rfl rfl rfl rfl
  have B1 := hide k.bel
  clear k K1 b2 H2
  go_wp2_with fail
  refine bodyPost_ret (v := ar 1 a i 0 j) (by simp [results, Try.results14, go_sem, e0, e1, e2, e3, e4]) rfl ⟨rfl, ?_⟩
  exact below_set5 (unhide B1) (Nat.le_refl _) _ _ _ _ _

set_option maxHeartbeats 1000000 in
theorem call_any (a i : Nat) (w : World) :
    Calls Try.prog 16 #[.int .u64 (a : Int), .int .u32 (i : Int)] w fun e w' => e = .returned (ar 1 a i 0 i) ∧ Below w.heap.size w w' := by
  have K := hide ((Tab.zero w).alloc rfl zL 27)
  have H1 := hide (fun w => ask_any a i i w)
  go_enter Try.func16, Try.ntmps16
  go_wp2_with fail
  refine (unhide H1 _).mono ?_
  rintro e w1 ⟨rfl, b1⟩
  have k := (unhide K).on b1
  obtain ⟨e0, e1, e2, e3, e4⟩ := k.five0 rfl rfl rfl rfl rfl
  obtain ⟨g0, g1, g2, g3, g4⟩ := k.free50 rfl rfl rfl rfl rfl
  have B1 := hide k.bel
  clear k K b1 H1
  go_wp2_with fail
  refine bodyPost_ret (v := ar 1 a i 0 i) (by simp [results, Try.results16, go_sem, e0, e1, e2, e3, e4]) rfl ⟨rfl, ?_⟩
  exact below_set5 (unhide B1) (Nat.le_refl _) _ _ _ _ _

end Go.Proofs.Ytkmhhlimhiiciaa
