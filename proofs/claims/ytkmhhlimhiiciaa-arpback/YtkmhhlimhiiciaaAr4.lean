/- The contracts of package arp's Decode and Encode, over the loaded program; no memory that was there has turned. Conditions: numbers in their kinds' bounds, texts of bounded length. -/
import Derived.Test.YtkmhhlimhiiciaaAr3
namespace Go.Proofs.Ytkmhhlimhiiciaa
open Go.RowKit

/-- what Decode answers -/
def DecIs (s : ByteArray) (O F I T J : Nat) (e : Int) : Prop :=
  (s.size < 28 ∧ O = 0 ∧ F = 0 ∧ I = 0 ∧ T = 0 ∧ J = 0 ∧ e = 10) ∨
  ((28 ≤ s.size ∧ isHd s = false) ∧ O = 0 ∧ F = 0 ∧ I = 0 ∧ T = 0 ∧ J = 0 ∧ e = 80) ∨
  ((28 ≤ s.size ∧ isHd s = true ∧ kn (num (fld s 6 2)) = false) ∧ O = 0 ∧ F = 0 ∧ I = 0 ∧ T = 0 ∧ J = 0 ∧ e = 8) ∨
  ((28 ≤ s.size ∧ isHd s = true ∧ kn (num (fld s 6 2)) = true) ∧ O = num (fld s 6 2) ∧ F = num (fld s 8 6) ∧ I = num (fld s 14 4) ∧ T = num (fld s 18 6) ∧ J = num (fld s 24 4) ∧ e = 0)
theorem dec_ex (s : ByteArray) : ∃ O F I T J e, DecIs s O F I T J e := by
  by_cases h : s.size < 28
  · exact ⟨_, _, _, _, _, _, .inl ⟨h, rfl, rfl, rfl, rfl, rfl, rfl⟩⟩
  · cases h2 : isHd s
    · exact ⟨_, _, _, _, _, _, .inr (.inl ⟨⟨by omega, h2⟩, rfl, rfl, rfl, rfl, rfl, rfl⟩)⟩
    · cases h3 : kn (num (fld s 6 2))
      · exact ⟨_, _, _, _, _, _, .inr (.inr (.inl ⟨⟨by omega, h2, h3⟩, rfl, rfl, rfl, rfl, rfl, rfl⟩))⟩
      · exact ⟨_, _, _, _, _, _, .inr (.inr (.inr ⟨⟨by omega, h2, h3⟩, rfl, rfl, rfl, rfl, rfl, rfl⟩))⟩

set_option maxHeartbeats 1000000 in
theorem dec_short (s : ByteArray) (w : World) (h : s.size < 28) :
    Calls Try.prog 10 #[.string s] w fun e w' => e = .returned (.tuple #[ar0, .int .i64 10]) ∧ Below w.heap.size w w' := by
  have BEL := hide (fun o => below_one w o)
  go_enter Try.func10, Try.ntmps10
  go_wp2_with fail
  refine bodyPost_ret (v := .tuple #[ar0, .int .i64 10]) (by simp [results, Try.results10, go_sem]) rfl ⟨rfl, ?_⟩
  exact unhide BEL _

set_option maxHeartbeats 1000000 in
theorem dec_head (s : ByteArray) (w : World) (h : 28 ≤ s.size) (hh : isHd s = false) :
    Calls Try.prog 10 #[.string s] w fun e w' => e = .returned (.tuple #[ar0, .int .i64 80]) ∧ Below w.heap.size w w' := by
  have BEL := hide (fun o => below_one w o)
  have H := hide (fun w => prefix_any s w h)
  rw [hh] at H
  clear hh
  go_enter Try.func10, Try.ntmps10
  go_wp2_with fail
  refine (unhide H _).mono ?_
  rintro e w1 ⟨rfl, rfl⟩
  go_wp2_with fail
  refine bodyPost_ret (v := .tuple #[ar0, .int .i64 80]) (by simp [results, Try.results10, go_sem]) rfl ⟨rfl, ?_⟩
  exact unhide BEL _

set_option maxHeartbeats 1000000 in
theorem dec_body (s : ByteArray) (w : World) (O F I T J : Nat) (h : 28 ≤ s.size) (g : Bool)
    (H1 : Hid (∀ w, Calls Try.prog 27 #[.string s, .string ⟨#[0, 1, 8, 0, 6, 4]⟩] w fun e w' => e = .returned (.bool true) ∧ w' = w))
    (H2 : Hid (∀ w, Calls Try.prog 28 #[.string s] w fun e w' => e = .returned (ar O F I T J) ∧ Below w.heap.size w w'))
    (H3 : Hid (∀ w, Calls Try.prog 20 #[.int .u16 (O : Int)] w fun e w' => e = .returned (.bool g) ∧ w' = w)) :
    Calls Try.prog 10 #[.string s] w fun e w' => e = .returned (.tuple #[if g then ar O F I T J else ar0, .int .i64 (if g then 0 else 8)]) ∧ Below w.heap.size w w' := by
  have K := hide ((Tab.zero w).alloc rfl zL 27)
  have H4 := hide (fun w => told_any O F I T J w)
  go_enter Try.func10, Try.ntmps10
  go_wp2_with fail
  refine (unhide H1 _).mono ?_
  rintro e w1 ⟨rfl, rfl⟩
  clear H1
  go_wp2_with fail
  refine (unhide H2 _).mono ?_
  rintro e w2 ⟨rfl, b2⟩
  have k2 := ((unhide K).on b2).on (below_one w2 (.cells #[.int .u16 (O : Int), .int .u64 (F : Int), .int .u32 (I : Int), .int .u64 (T : Int), .int .u32 (J : Int)] 55))
  have K2 := hide k2
  obtain ⟨e0, e1, e2, e3, e4⟩ := k2.five0 rfl rfl rfl rfl rfl
  obtain ⟨g0, g1, g2, g3, g4⟩ := k2.free50 rfl rfl rfl rfl rfl
  clear K b2 H2 k2
  go_wp2_with fail
  refine (unhide H3 _).mono ?_
  rintro e w3 ⟨rfl, rfl⟩
  clear H3
  cases g
  · go_wp2_with fail
    refine bodyPost_ret (v := .tuple #[ar0, .int .i64 8]) (by simp [results, Try.results10, go_sem, e0, e1, e2, e3, e4]) rfl ⟨rfl, ?_⟩
    exact below_set5 (unhide K2).bel (Nat.le_refl _) _ _ _ _ _
  · clear e0 e1 e2 e3 e4 g0 g1 g2 g3 g4
    go_wp2_with fail
    refine (unhide H4 _).mono ?_
    rintro e w4 ⟨rfl, b4⟩
    have k4 := (unhide K2).on b4
    obtain ⟨e0, e1, e2, e3, e4⟩ := k4.five0 rfl rfl rfl rfl rfl
    obtain ⟨g0, g1, g2, g3, g4⟩ := k4.free50 rfl rfl rfl rfl rfl
    have B4 := hide k4.bel
    clear K2 b4 H4 k4
    go_wp2_with fail
    refine bodyPost_ret (v := .tuple #[ar O F I T J, .int .i64 0]) (by simp [results, Try.results10, go_sem, e0, e1, e2, e3, e4]) rfl ⟨rfl, ?_⟩
    exact below_set5 (unhide B4) (Nat.le_refl _) _ _ _ _ _

theorem decode_any (s : ByteArray) (w : World) (hs : s.size ≤ maxLen) {O F I T J : Nat} {e : Int} (h : DecIs s O F I T J e) :
    Calls Try.prog 10 #[.string s] w fun x w' => x = .returned (.tuple #[ar O F I T J, .int .i64 e]) ∧ Below w.heap.size w w' := by
  rcases h with ⟨h, rfl, rfl, rfl, rfl, rfl, rfl⟩ | ⟨⟨h1, h2⟩, rfl, rfl, rfl, rfl, rfl, rfl⟩ | ⟨⟨h1, h2, h3⟩, rfl, rfl, rfl, rfl, rfl, rfl⟩ | ⟨⟨h1, h2, h3⟩, rfl, rfl, rfl, rfl, rfl, rfl⟩
  · exact dec_short s w h
  · exact dec_head s w h1 h2
  · exact dec_body s w _ _ _ _ _ h1 false (fun w => by have := prefix_any s w h1; rw [h2] at this; exact this) (fun w => read_any s w hs h1) (fun w => by have := isknown_any (num (fld s 6 2)) w; rw [h3] at this; exact this)
  · exact dec_body s w _ _ _ _ _ h1 true (fun w => by have := prefix_any s w h1; rw [h2] at this; exact this) (fun w => read_any s w hs h1) (fun w => by have := isknown_any (num (fld s 6 2)) w; rw [h3] at this; exact this)

/-- what each packet begins with -/
def hd : ByteArray := ⟨#[0, 1, 8, 0, 6, 4]⟩
/-- a packet's bytes -/
def encB (o f i t j : Nat) : ByteArray := hd ++ by2 o ++ (by6 f ++ by4 i) ++ (by6 t ++ by4 j)
/-- what Encode answers -/
def EncIs (o f i t j : Nat) (s : ByteArray) (e : Int) : Prop :=
  ((kn o = false ∨ 281474976710656 ≤ f ∨ 281474976710656 ≤ t) ∧ s = ⟨#[]⟩ ∧ e = 2) ∨
  ((kn o = true ∧ f < 281474976710656 ∧ t < 281474976710656) ∧ s = encB o f i t j ∧ e = 0)
theorem enc_ex (o f i t j : Nat) : ∃ s e, EncIs o f i t j s e := by
  by_cases h : kn o = false ∨ 281474976710656 ≤ f ∨ 281474976710656 ≤ t
  · exact ⟨_, _, .inl ⟨h, rfl, rfl⟩⟩
  · have h3 : kn o = true := by cases hg : kn o; exact absurd (.inl hg) h; rfl
    exact ⟨_, _, .inr ⟨⟨h3, by omega, by omega⟩, rfl, rfl⟩⟩

set_option maxHeartbeats 1000000 in
theorem enc_arg (o f i t j : Nat) (w : World) (g a b : Bool) (hn : (!g || !a || !b) = true)
    (H1 : Hid (∀ w, Calls Try.prog 19 #[ar o f i t j] w fun e w' => e = .returned (ar o f i t j) ∧ Below w.heap.size w w'))
    (H2 : Hid (∀ w, Calls Try.prog 20 #[.int .u16 (o : Int)] w fun e w' => e = .returned (.bool g) ∧ w' = w))
    (H3 : Hid (∀ w, Calls Try.prog 21 #[en f i] w fun e w' => e = .returned (en f i) ∧ Below w.heap.size w w'))
    (H4 : Hid (∀ w, Calls Try.prog 22 #[en f i] w fun e w' => e = .returned (.bool a) ∧ Below w.heap.size w w'))
    (H5 : Hid (∀ w, Calls Try.prog 23 #[en t j] w fun e w' => e = .returned (en t j) ∧ Below w.heap.size w w'))
    (H6 : Hid (∀ w, Calls Try.prog 22 #[en t j] w fun e w' => e = .returned (.bool b) ∧ Below w.heap.size w w')) :
    Calls Try.prog 8 #[ar o f i t j] w fun e w' => e = .returned (.tuple #[.string ⟨#[]⟩, .int .i64 2]) ∧ Below w.heap.size w w' := by
  have B0 := hide (below_one w (.cells #[.int .u16 (o : Int), .int .u64 (f : Int), .int .u32 (i : Int), .int .u64 (t : Int), .int .u32 (j : Int)] 27))
  go_enter Try.func8, Try.ntmps8
  go_wp2_with fail
  refine (unhide H1 _).mono ?_
  rintro e w1 ⟨rfl, b1⟩
  have B1 := hide (tr2 (unhide B0) b1)
  have P := hide ((Tab.zero w1).alloc rfl (arL o f i t j) 55)
  clear H1 B0 b1
  go_wp2_with fail
  refine (unhide H2 _).mono ?_
  rintro e w2 ⟨rfl, rfl⟩
  clear H2
  cases g
  · go_wp2_with fail
    go_ret2
    exact ⟨rfl, tr2 (unhide B1) (unhide P).bel⟩
  · go_wp2_with fail
    refine (unhide H3 _).mono ?_
    rintro e w3 ⟨rfl, b3⟩
    have P3 := hide ((unhide P).on b3)
    clear H3 b3 P
    go_wp2_with fail
    refine (unhide H4 _).mono ?_
    rintro e w4 ⟨rfl, b4⟩
    have P4 := hide ((unhide P3).on b4)
    clear H4 b4 P3
    cases a
    · go_wp2_with fail
      go_ret2
      exact ⟨rfl, tr2 (unhide B1) (unhide P4).bel⟩
    · cases b
      · obtain ⟨c0, c1, c2, c3, c4⟩ := (unhide P4).five0 rfl rfl rfl rfl rfl
        go_wp2_with fail
        refine (unhide H5 _).mono ?_
        rintro e w5 ⟨rfl, b5⟩
        have P5 := hide ((unhide P4).on b5)
        clear H5 b5 P4 c0 c1 c2 c3 c4
        go_wp2_with fail
        refine (unhide H6 _).mono ?_
        rintro e w6 ⟨rfl, b6⟩
        have P6 := hide ((unhide P5).on b6)
        go_wp2_with fail
        go_ret2
        exact ⟨rfl, tr2 (unhide B1) (unhide P6).bel⟩
      · exact absurd hn (by decide)

set_option maxRecDepth 20000 in
set_option maxHeartbeats 2000000 in
theorem enc_ok (o f i t j : Nat) (w : World) (ho : o < 65536) (hf : f < 18446744073709551616) (hi : i < 4294967296) (ht : t < 18446744073709551616) (hj : j < 4294967296)
    (H1 : Hid (∀ w, Calls Try.prog 19 #[ar o f i t j] w fun e w' => e = .returned (ar o f i t j) ∧ Below w.heap.size w w'))
    (H2 : Hid (∀ w, Calls Try.prog 20 #[.int .u16 (o : Int)] w fun e w' => e = .returned (.bool true) ∧ w' = w))
    (H3 : Hid (∀ w, Calls Try.prog 21 #[en f i] w fun e w' => e = .returned (en f i) ∧ Below w.heap.size w w'))
    (H4 : Hid (∀ w, Calls Try.prog 22 #[en f i] w fun e w' => e = .returned (.bool true) ∧ Below w.heap.size w w'))
    (H5 : Hid (∀ w, Calls Try.prog 23 #[en t j] w fun e w' => e = .returned (en t j) ∧ Below w.heap.size w w'))
    (H6 : Hid (∀ w, Calls Try.prog 22 #[en t j] w fun e w' => e = .returned (.bool true) ∧ Below w.heap.size w w')) :
    Calls Try.prog 8 #[ar o f i t j] w fun e w' => e = .returned (.tuple #[.string (encB o f i t j), .int .i64 0]) ∧ Below w.heap.size w w' := by
  have B0 := hide (below_one w (.cells #[.int .u16 (o : Int), .int .u64 (f : Int), .int .u32 (i : Int), .int .u64 (t : Int), .int .u32 (j : Int)] 27))
  have H7 : Hid (∀ w, Calls Try.prog 24 #[.int .u64 (o : Int), .int .i64 2] w fun e w' => e = .returned (.string (by2 o)) ∧ Below w.heap.size w w') := fun w => of_2 o w (by omega)
  have H8 := hide (fun w => bytes_any f i w hf hi)
  have H9 := hide (fun w => bytes_any t j w ht hj)
  have wk : IntKind.u64.wrap (o : Int) = (o : Int) := by rw [IntKind.wrap_u64]; omega
  unfold encB hd
  have z1 := Nat.le_of_eq (by2_size o)
  have z2 : (by6 f ++ by4 i).size ≤ 10 := by rw [ByteArray.size_append, by6_size, by4_size]; omega
  have z3 : (by6 t ++ by4 j).size ≤ 10 := by rw [ByteArray.size_append, by6_size, by4_size]; omega
  clear ho hf hi ht hj
  generalize by2 o = A at *
  generalize by6 f ++ by4 i = C at *
  generalize by6 t ++ by4 j = D at *
  obtain ⟨P1, g1⟩ : ∃ P, (⟨#[0, 1, 8, 0, 6, 4]⟩ : ByteArray) ++ A = P := ⟨_, rfl⟩
  have t1 : P1.size ≤ 8 := by rw [← g1, ByteArray.size_append]; have : (⟨#[0, 1, 8, 0, 6, 4]⟩ : ByteArray).size = 6 := rfl; omega
  obtain ⟨P2, g2⟩ : ∃ P, P1 ++ C = P := ⟨_, rfl⟩
  have t2 : P2.size ≤ 18 := by rw [← g2, ByteArray.size_append]; omega
  obtain ⟨P3, g3⟩ : ∃ P, P2 ++ D = P := ⟨_, rfl⟩
  rw [g1, g2, g3]
  have n1 : ¬ 9223372036854775807 < 6 + A.size := by omega
  have n2 : ¬ 9223372036854775807 < P1.size + C.size := by omega
  have n3 : ¬ 9223372036854775807 < P2.size + D.size := by omega
  go_enter Try.func8, Try.ntmps8
  go_wp2_with fail
  refine (unhide H1 _).mono ?_
  rintro e w1 ⟨rfl, b1⟩
  have B1 := hide (tr2 (unhide B0) b1)
  have P := hide ((Tab.zero w1).alloc rfl (arL o f i t j) 55)
  clear H1 B0 b1
  go_wp2_with fail
  refine (unhide H2 _).mono ?_
  rintro e w2 ⟨rfl, rfl⟩
  clear H2
  go_wp2_with fail
  refine (unhide H3 _).mono ?_
  rintro e w3 ⟨rfl, b3⟩
  have P3 := hide ((unhide P).on b3)
  clear b3 P
  go_wp2_with fail
  refine (unhide H4 _).mono ?_
  rintro e w4 ⟨rfl, b4⟩
  have P4 := hide ((unhide P3).on b4)
  clear H4 b4 P3
  obtain ⟨c0, c1, c2, c3, c4⟩ := (unhide P4).five0 rfl rfl rfl rfl rfl
  go_wp2_with fail
  refine (unhide H5 _).mono ?_
  rintro e w5 ⟨rfl, b5⟩
  have P5 := hide ((unhide P4).on b5)
  clear b5 P4 c0 c1 c2 c3 c4
  go_wp2_with fail
  refine (unhide H6 _).mono ?_
  rintro e w6 ⟨rfl, b6⟩
  have k6 := (unhide P5).on b6
  clear H6 b6 P5
  go_wp2_with fail
  have BEL := hide (tr2 (unhide B1) k6.bel)
  obtain ⟨x0, x1, x2, x3, x4⟩ := k6.five0 rfl rfl rfl rfl rfl
  clear k6 B1
  have c0 := cell_regrown x0
  have c1 := cell_regrown x1
  have c2 := cell_regrown x2
  have c3 := cell_regrown x3
  have c4 := cell_regrown x4
  have q1 := rgB (w := w6) (unhide H7)
  have q2 := rgB (w := w6) (unhide H3)
  have q3 := rgB (w := w6) (unhide H8)
  have q4 := rgB (w := w6) (unhide H5)
  have q5 := rgB (w := w6) (unhide H9)
  refine wp_region_quiet_below (by kernel_rfl) (by kernel_rfl) ?_
  repeat (quiet_step (fail))
  quiet_step (exact q1 _ _)
  repeat (quiet_step (fail))
  quiet_step (exact q2 _ _)
  repeat (quiet_step (fail))
  quiet_step (exact q3 _ _)
  repeat (quiet_step (fail))
  quiet_step (exact q4 _ _)
  repeat (quiet_step (fail))
  quiet_step (exact q5 _ _)
  repeat (quiet_step (fail))
  refine wpQuiet_nil ?_
  intro _ hw'
  obtain ⟨⟨dq, osq⟩, hw''⟩ := hw'
  subst hw''
  go_wp2
  go_ret2
  exact ⟨rfl, tr2 (unhide BEL) (below_regrown w6 dq osq)⟩

theorem encode_any (o f i t j : Nat) (w : World) (ho : o < 65536) (hf : f < 18446744073709551616) (hi : i < 4294967296) (ht : t < 18446744073709551616) (hj : j < 4294967296) {s : ByteArray} {e : Int} (h : EncIs o f i t j s e) :
    Calls Try.prog 8 #[ar o f i t j] w fun x w' => x = .returned (.tuple #[.string s, .int .i64 e]) ∧ Below w.heap.size w w' := by
  rcases h with ⟨h, rfl, rfl⟩ | ⟨⟨h1, h2, h3⟩, rfl, rfl⟩
  · refine enc_arg o f i t j w (kn o) (decide (f < 281474976710656)) (decide (t < 281474976710656)) ?_ (fun w => packet_any o f i t j w) (fun w => isknown_any o w) (fun w => from_any f i w) (fun w => fits_any f i w) (fun w => to_any t j w) (fun w => fits_any t j w)
    rcases h with h | h | h
    · rw [h]; rfl
    · rw [decide_eq_false (show ¬ f < 281474976710656 by omega)]; simp
    · rw [decide_eq_false (show ¬ t < 281474976710656 by omega)]; simp
  · refine enc_ok o f i t j w ho hf hi ht hj (fun w => packet_any o f i t j w) (fun w => ?_) (fun w => from_any f i w) (fun w => ?_) (fun w => to_any t j w) (fun w => ?_)
    · have := isknown_any o w; rw [h1] at this; exact this
    · have := fits_any f i w; rw [decide_eq_true h2] at this; exact this
    · have := fits_any t j w; rw [decide_eq_true h3] at this; exact this

end Go.Proofs.Ytkmhhlimhiiciaa
