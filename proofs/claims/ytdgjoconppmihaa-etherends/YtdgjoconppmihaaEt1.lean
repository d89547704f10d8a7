/- The contracts of package ether's Decode and Encode, over the loaded program; no memory that was there has turned. Conditions: numbers in their kinds' bounds, texts of bounded length. -/
import Derived.Test.YtdgjoconppmihaaEt0
import Derived.Test.YtdgjoconppmihaaLib7
import Derived.Lib.QuietBelow
namespace Go.Proofs.Ytdgjoconppmihaa
open Go.RowKit

/-- what Decode answers -/
def DecIs (s : ByteArray) (t f k : Nat) (d : ByteArray) (e : Int) : Prop :=
  (s.size < 60 ∧ t = 0 ∧ f = 0 ∧ k = 0 ∧ d = ⟨#[]⟩ ∧ e = 10) ∨
  (65549 < s.size ∧ t = 0 ∧ f = 0 ∧ k = 0 ∧ d = ⟨#[]⟩ ∧ e = 4) ∨
  ((60 ≤ s.size ∧ s.size ≤ 65549 ∧ grp (num (fld s 6 6)) = true) ∧ t = 0 ∧ f = 0 ∧ k = 0 ∧ d = ⟨#[]⟩ ∧ e = 8) ∨
  ((60 ≤ s.size ∧ s.size ≤ 65549 ∧ grp (num (fld s 6 6)) = false) ∧ t = num (fld s 0 6) ∧ f = num (fld s 6 6) ∧ k = num (fld s 12 2) ∧ d = s.extract 14 s.size ∧ e = 0)
theorem dec_ex (s : ByteArray) : ∃ t f k d e, DecIs s t f k d e := by
  by_cases h1 : s.size < 60
  · exact ⟨0, 0, 0, ⟨#[]⟩, 10, .inl ⟨h1, rfl, rfl, rfl, rfl, rfl⟩⟩
  · by_cases h2 : 65549 < s.size
    · exact ⟨0, 0, 0, ⟨#[]⟩, 4, .inr (.inl ⟨h2, rfl, rfl, rfl, rfl, rfl⟩)⟩
    · cases h3 : grp (num (fld s 6 6))
      · exact ⟨_, _, _, _, 0, .inr (.inr (.inr ⟨⟨by omega, by omega, h3⟩, rfl, rfl, rfl, rfl, rfl⟩))⟩
      · exact ⟨0, 0, 0, ⟨#[]⟩, 8, .inr (.inr (.inl ⟨⟨by omega, by omega, h3⟩, rfl, rfl, rfl, rfl, rfl⟩))⟩

/-- the frame that is none -/
abbrev fr0 : Value := .agg #[.int .u64 0, .int .u64 0, .int .u16 0, .string ⟨#[]⟩]
theorem below_set4 {w0 w : World} {b : Nat} (h : Below w0.heap.size w0 w) (hb : w0.heap.size ≤ b) (a0 a1 a2 a3 : Value) :
    Below w0.heap.size w0 ((((w.setCell ⟨b, 0, none⟩ a0).setCell ⟨b, 1, none⟩ a1).setCell ⟨b, 2, none⟩ a2).setCell ⟨b, 3, none⟩ a3) :=
  (((h.setCell (p := ⟨b, 0, none⟩) hb _).setCell (p := ⟨b, 1, none⟩) hb _).setCell (p := ⟨b, 2, none⟩) hb _).setCell (p := ⟨b, 3, none⟩) hb _

set_option maxHeartbeats 1000000 in
theorem dec_short (s : ByteArray) (w : World) (h : s.size < 60) :
    Calls Try.prog 12 #[.string s] w fun e w' => e = .returned (.tuple #[fr0, .int .i64 10]) ∧ Below w.heap.size w w' := by
  go_enter Try.func12, Try.ntmps12
  go_wp2_with fail
  refine bodyPost_ret (v := .tuple #[fr0, .int .i64 10]) (by simp [results, Try.results12, go_sem]) rfl ⟨rfl, ?_⟩
  exact below_one w _

set_option maxHeartbeats 1000000 in
theorem dec_long (s : ByteArray) (w : World) (h : 65549 < s.size) :
    Calls Try.prog 12 #[.string s] w fun e w' => e = .returned (.tuple #[fr0, .int .i64 4]) ∧ Below w.heap.size w w' := by
  go_enter Try.func12, Try.ntmps12
  go_wp2_with fail
  refine bodyPost_ret (v := .tuple #[fr0, .int .i64 4]) (by simp [results, Try.results12, go_sem]) rfl ⟨rfl, ?_⟩
  exact below_one w _

/-- the answer's block stands -/
theorem zero_start (w : World) (t : TypeId) : Tab w 1 (add (fun _ _ => none) 0 [.int .u64 0, .int .u64 0, .int .u16 0, .string ⟨#[]⟩]) (w.alloc (.cells #[.int .u64 0, .int .u64 0, .int .u16 0, .string ⟨#[]⟩] t)) :=
  (Tab.zero w).alloc rfl [.int .u64 0, .int .u64 0, .int .u16 0, .string ⟨#[]⟩] t

set_option maxHeartbeats 1000000 in
theorem dec_body (s : ByteArray) (w : World) (t f k : Nat) (d : ByteArray) (h1 : 60 ≤ s.size) (h2 : s.size ≤ 65549) (g : Bool)
    (H1 : Hid (∀ w, Calls Try.prog 27 #[.string s] w fun e w' => e = .returned (fr t f k d) ∧ Below w.heap.size w w'))
    (H2 : Hid (∀ w, Calls Try.prog 21 #[.int .u64 (f : Int)] w fun e w' => e = .returned (.bool g) ∧ w' = w)) :
    Calls Try.prog 12 #[.string s] w fun e w' => e = .returned (.tuple #[if g then fr0 else fr t f k d, .int .i64 (if g then 8 else 0)]) ∧ Below w.heap.size w w' := by
  have K := hide (zero_start w 26)
  go_enter Try.func12, Try.ntmps12
  go_wp2_with fail
  refine (unhide H1 _).mono ?_
  rintro e w1 ⟨rfl, b1⟩
  have k1 := (unhide K).on b1
  have bel1 := k1.bel
  have k2 := k1.on (below_one w1 (.cells #[.int .u64 (t : Int), .int .u64 (f : Int), .int .u16 (k : Int), .string d] 26))
  have lt1 := k1.lt
  have e0 := k2.cells 0 0 _ rfl
  have e1 := k2.cells 0 1 _ rfl
  have e2 := k2.cells 0 2 _ rfl
  have e3 := k2.cells 0 3 _ rfl
  have g0 := k2.free 0 0 _ rfl
  have g1 := k2.free 0 1 _ rfl
  have g2 := k2.free 0 2 _ rfl
  have g3 := k2.free 0 3 _ rfl
  have BEL := hide bel1
  simp only [Nat.add_zero] at e0 e1 e2 e3 g0 g1 g2 g3
  clear k1 k2 b1 K bel1
  go_wp2_with fail
  refine (unhide H2 _).mono ?_
  rintro e w2 ⟨rfl, rfl⟩
  cases g
  · go_wp2_with fail
    refine bodyPost_ret (v := .tuple #[fr t f k d, .int .i64 0]) (by simp [results, Try.results12, go_sem, e0, e1, e2, e3]) rfl ⟨rfl, ?_⟩
    exact below_set4 ((unhide BEL).alloc (unhide BEL).size _) (Nat.le_refl _) _ _ _ _
  · go_wp2_with fail
    refine bodyPost_ret (v := .tuple #[fr0, .int .i64 8]) (by simp [results, Try.results12, go_sem, e0, e1, e2, e3]) rfl ⟨rfl, ?_⟩
    exact below_set4 ((unhide BEL).alloc (unhide BEL).size _) (Nat.le_refl _) _ _ _ _

theorem decode_any (s : ByteArray) (w : World) {t f k : Nat} {d : ByteArray} {e : Int} (h : DecIs s t f k d e) :
    Calls Try.prog 12 #[.string s] w fun x w' => x = .returned (.tuple #[fr t f k d, .int .i64 e]) ∧ Below w.heap.size w w' := by
  rcases h with ⟨h, rfl, rfl, rfl, rfl, rfl⟩ | ⟨h, rfl, rfl, rfl, rfl, rfl⟩ | ⟨⟨h1, h2, h3⟩, rfl, rfl, rfl, rfl, rfl⟩ | ⟨⟨h1, h2, h3⟩, rfl, rfl, rfl, rfl, rfl⟩
  · exact dec_short s w h
  · exact dec_long s w h
  · have := dec_body s w _ _ _ _ h1 h2 true (fun w => read_any s w (by omega) (by omega)) (fun w => by have := isgroup_any (num (fld s 6 6)) w (Nat.lt_trans (fld_lt s 6 6) (by decide)); rw [h3] at this; exact this)
    exact this
  · have := dec_body s w _ _ _ _ h1 h2 false (fun w => read_any s w (by omega) (by omega)) (fun w => by have := isgroup_any (num (fld s 6 6)) w (Nat.lt_trans (fld_lt s 6 6) (by decide)); rw [h3] at this; exact this)
    exact this

/-- a frame's bytes -/
def encB (t f k : Nat) (d : ByteArray) : ByteArray := by6 t ++ by6 f ++ by2 k ++ d ++ zs (60 - (14 + d.size))
/-- what Encode answers -/
def EncIs (t f k : Nat) (d s : ByteArray) (e : Int) : Prop :=
  ((281474976710656 ≤ t ∨ 281474976710656 ≤ f ∨ grp f = true) ∧ s = ⟨#[]⟩ ∧ e = 2) ∨
  ((t < 281474976710656 ∧ f < 281474976710656 ∧ grp f = false ∧ 65535 < d.size) ∧ s = ⟨#[]⟩ ∧ e = 4) ∨
  ((t < 281474976710656 ∧ f < 281474976710656 ∧ grp f = false ∧ d.size ≤ 65535) ∧ s = encB t f k d ∧ e = 0)
theorem enc_ex (t f k : Nat) (d : ByteArray) : ∃ s e, EncIs t f k d s e := by
  by_cases h : 281474976710656 ≤ t ∨ 281474976710656 ≤ f ∨ grp f = true
  · exact ⟨_, _, .inl ⟨h, rfl, rfl⟩⟩
  · have h3 : grp f = false := by cases hg : grp f; rfl; exact absurd (.inr (.inr hg)) h
    by_cases h2 : 65535 < d.size
    · exact ⟨_, _, .inr (.inl ⟨⟨by omega, by omega, h3, h2⟩, rfl, rfl⟩)⟩
    · exact ⟨_, _, .inr (.inr ⟨⟨by omega, by omega, h3, by omega⟩, rfl, rfl⟩)⟩

set_option maxHeartbeats 1000000 in
theorem enc_arg (t f k : Nat) (d : ByteArray) (w : World) (a b g : Bool) (hn : (!a || !b || g) = true)
    (H1 : Hid (∀ w, Calls Try.prog 20 #[.int .u64 (t : Int)] w fun e w' => e = .returned (.bool a) ∧ w' = w))
    (H2 : Hid (∀ w, Calls Try.prog 20 #[.int .u64 (f : Int)] w fun e w' => e = .returned (.bool b) ∧ w' = w))
    (H3 : Hid (∀ w, Calls Try.prog 21 #[.int .u64 (f : Int)] w fun e w' => e = .returned (.bool g) ∧ w' = w)) :
    Calls Try.prog 10 #[fr t f k d] w fun e w' => e = .returned (.tuple #[.string ⟨#[]⟩, .int .i64 2]) ∧ Below w.heap.size w w' := by
  have BEL := hide (below_one w (.cells #[.int .u64 (t : Int), .int .u64 (f : Int), .int .u16 (k : Int), .string d] 26))
  go_enter Try.func10, Try.ntmps10
  go_wp2_with fail
  refine (unhide H1 _).mono ?_
  rintro e w2 ⟨rfl, rfl⟩
  clear H1
  cases a
  · go_wp2_with fail
    go_ret2
    exact ⟨rfl, unhide BEL⟩
  · go_wp2_with fail
    refine (unhide H2 _).mono ?_
    rintro e w2 ⟨rfl, rfl⟩
    clear H2
    cases b
    · go_wp2_with fail
      go_ret2
      exact ⟨rfl, unhide BEL⟩
    · cases g
      · exact absurd hn (by decide)
      · go_wp2_with fail
        refine (unhide H3 _).mono ?_
        rintro e w2 ⟨rfl, rfl⟩
        go_wp2_with fail
        go_ret2
        exact ⟨rfl, unhide BEL⟩

set_option maxHeartbeats 1000000 in
theorem enc_long (t f k : Nat) (d : ByteArray) (w : World) (hd : 65535 < d.size) (hm : d.size ≤ 1000000)
    (H1 : Hid (∀ w, Calls Try.prog 20 #[.int .u64 (t : Int)] w fun e w' => e = .returned (.bool true) ∧ w' = w))
    (H2 : Hid (∀ w, Calls Try.prog 20 #[.int .u64 (f : Int)] w fun e w' => e = .returned (.bool true) ∧ w' = w))
    (H3 : Hid (∀ w, Calls Try.prog 21 #[.int .u64 (f : Int)] w fun e w' => e = .returned (.bool false) ∧ w' = w)) :
    Calls Try.prog 10 #[fr t f k d] w fun e w' => e = .returned (.tuple #[.string ⟨#[]⟩, .int .i64 4]) ∧ Below w.heap.size w w' := by
  have BEL := hide (below_one w (.cells #[.int .u64 (t : Int), .int .u64 (f : Int), .int .u16 (k : Int), .string d] 26))
  go_enter Try.func10, Try.ntmps10
  go_wp2_with fail
  refine (unhide H1 _).mono ?_
  rintro e w2 ⟨rfl, rfl⟩
  clear H1
  go_wp2_with fail
  refine (unhide H2 _).mono ?_
  rintro e w2 ⟨rfl, rfl⟩
  clear H2
  go_wp2_with fail
  refine (unhide H3 _).mono ?_
  rintro e w2 ⟨rfl, rfl⟩
  go_wp2_with fail
  go_ret2
  exact ⟨rfl, unhide BEL⟩

theorem rgB {w : World} {f : FuncId} {args : Array Value} {v : Value} (H : ∀ W, Calls Try.prog f args W fun e w' => e = .returned v ∧ Below W.heap.size W w') (d : Nat) (os : Array Obj) :
    Calls Try.prog f args (Sort.grow (redrawn w d) os) fun e w'' => e = .returned v ∧ ∃ p : Regrown, w'' = Sort.grow (redrawn w p.d) p.os := Calls.regrown_of (H _)
theorem same_below {f : FuncId} {args : Array Value} {v : Value} (H : ∀ W, Calls Try.prog f args W fun e w' => e = .returned v ∧ w' = W) (W : World) : Calls Try.prog f args W fun e w' => e = .returned v ∧ Below W.heap.size W w' :=
  (H W).mono fun _ _ h => ⟨h.1, h.2 ▸ Below.refl _ _⟩
theorem by6_size (x : Nat) : (by6 x).size = 6 := rfl
theorem by2_size (x : Nat) : (by2 x).size = 2 := rfl
/-- a frame in a box -/
theorem box_start (w : World) (t f k : Nat) (d : ByteArray) (ty : TypeId) : Tab w 1 (add (fun _ _ => none) 0 [.int .u64 (t : Int), .int .u64 (f : Int), .int .u16 (k : Int), .string d]) (w.alloc (.cells #[.int .u64 (t : Int), .int .u64 (f : Int), .int .u16 (k : Int), .string d] ty)) :=
  (Tab.zero w).alloc rfl [.int .u64 (t : Int), .int .u64 (f : Int), .int .u16 (k : Int), .string d] ty

set_option maxRecDepth 20000 in
set_option maxHeartbeats 2000000 in
theorem enc_ok (t f k : Nat) (d : ByteArray) (w : World) (ht : t < 18446744073709551616) (hf : f < 18446744073709551616) (hk : k < 65536) (hm : d.size ≤ 65535)
    (H1 : Hid (∀ w, Calls Try.prog 20 #[.int .u64 (t : Int)] w fun e w' => e = .returned (.bool true) ∧ w' = w))
    (H2 : Hid (∀ w, Calls Try.prog 20 #[.int .u64 (f : Int)] w fun e w' => e = .returned (.bool true) ∧ w' = w))
    (H3 : Hid (∀ w, Calls Try.prog 21 #[.int .u64 (f : Int)] w fun e w' => e = .returned (.bool false) ∧ w' = w)) :
    Calls Try.prog 10 #[fr t f k d] w fun e w' => e = .returned (.tuple #[.string (encB t f k d), .int .i64 0]) ∧ Below w.heap.size w w' := by
  have K := hide (box_start w t f k d 26)
  have H4 := hide (fun w => rep_any (60 - (14 + d.size)) (by omega) w)
  have H5 := hide (fun w => card_any t w ht)
  have H6 := hide (fun w => card_any f w hf)
  have H7 : Hid (∀ w, Calls Try.prog 24 #[.int .u64 (k : Int), .int .i64 2] w fun e w' => e = .returned (.string (by2 k)) ∧ Below w.heap.size w w') := fun w => of_2 k w (by omega)
  unfold encB
  have hmx : max (60 - (14 + (d.size : Int))) 0 = ((60 - (14 + d.size) : Nat) : Int) := by omega
  have z1 := Nat.le_of_eq (by6_size t)
  have z2 := Nat.le_of_eq (by6_size f)
  have z3 := Nat.le_of_eq (by2_size k)
  have z4 := Nat.le_of_eq (zs_size (60 - (14 + d.size)))
  have z5 : 60 - (14 + d.size) ≤ 46 := by omega
  generalize 60 - (14 + d.size) = n at *
  generalize by6 t = A at *
  generalize by6 f = C at *
  generalize by2 k = D at *
  generalize zs n = Z at *
  obtain ⟨P1, g1⟩ : ∃ P, A ++ C = P := ⟨_, rfl⟩
  have t1 : P1.size ≤ 12 := by rw [← g1, ByteArray.size_append]; omega
  obtain ⟨P2, g2⟩ : ∃ P, P1 ++ D = P := ⟨_, rfl⟩
  have t2 : P2.size ≤ 14 := by rw [← g2, ByteArray.size_append]; omega
  obtain ⟨P3, g3⟩ : ∃ P, P2 ++ d = P := ⟨_, rfl⟩
  have t3 : P3.size ≤ 65549 := by rw [← g3, ByteArray.size_append]; omega
  obtain ⟨P4, g4⟩ : ∃ P, P3 ++ Z = P := ⟨_, rfl⟩
  rw [g1, g2, g3, g4]
  have wk : IntKind.u64.wrap (k : Int) = (k : Int) := by rw [IntKind.wrap_u64]; omega
  have n1 : ¬ 9223372036854775807 < A.size + C.size := by omega
  have n2 : ¬ 9223372036854775807 < P1.size + D.size := by omega
  have n3 : ¬ 9223372036854775807 < P2.size + d.size := by omega
  have n4 : ¬ 9223372036854775807 < P3.size + Z.size := by omega
  go_enter Try.func10, Try.ntmps10
  go_wp2_with fail
  refine (unhide H1 _).mono ?_
  rintro e w2 ⟨rfl, rfl⟩
  clear H1
  go_wp2_with fail
  refine (unhide H2 _).mono ?_
  rintro e w2 ⟨rfl, rfl⟩
  clear H2
  go_wp2_with fail
  refine (unhide H3 _).mono ?_
  rintro e w2 ⟨rfl, rfl⟩
  clear H3
  go_wp2_with fail
  refine (unhide H4 _).mono ?_
  rintro e w1 ⟨rfl, b1⟩
  have k1 := (unhide K).on b1
  clear H4 K b1
  go_wp2_with fail
  have c0 := cell_regrown (k1.cells 0 0 _ rfl)
  have c1 := cell_regrown (k1.cells 0 1 _ rfl)
  have c2 := cell_regrown (k1.cells 0 2 _ rfl)
  have c3 := cell_regrown (k1.cells 0 3 _ rfl)
  simp only [Nat.add_zero] at c0 c1 c2 c3
  have BEL := hide k1.bel
  clear k1
  have q1 := rgB (w := w1) (unhide H5)
  have q2 := rgB (w := w1) (unhide H6)
  have q3 := rgB (w := w1) (unhide H7)
  refine wp_region_quiet_below (by kernel_rfl) (by kernel_rfl) ?_
  repeat (quiet_step (fail))
  quiet_step (exact q1 _ _)
  repeat (quiet_step (fail))
  quiet_step (exact q2 _ _)
  repeat (quiet_step (fail))
  quiet_step (exact q3 _ _)
  repeat (quiet_step (fail))
  refine wpQuiet_nil ?_
  intro _ hw'
  obtain ⟨⟨dq, osq⟩, hw''⟩ := hw'
  subst hw''
  go_wp2
  go_ret2
  exact ⟨rfl, tr2 (unhide BEL) (below_regrown w1 dq osq)⟩

theorem fits_yes (x : Nat) (w : World) (h : x < 281474976710656) : Calls Try.prog 20 #[.int .u64 (x : Int)] w fun e w' => e = .returned (.bool true) ∧ w' = w := by
  have := fits_any x w (by omega)
  rw [decide_eq_true h] at this
  exact this
theorem encode_any (t f k : Nat) (d : ByteArray) (w : World) (ht : t < 18446744073709551616) (hf : f < 18446744073709551616) (hk : k < 65536) (hm : d.size ≤ 1000000) {s : ByteArray} {e : Int} (h : EncIs t f k d s e) :
    Calls Try.prog 10 #[fr t f k d] w fun x w' => x = .returned (.tuple #[.string s, .int .i64 e]) ∧ Below w.heap.size w w' := by
  rcases h with ⟨h, rfl, rfl⟩ | ⟨⟨h1, h2, h3, h4⟩, rfl, rfl⟩ | ⟨⟨h1, h2, h3, h4⟩, rfl, rfl⟩
  · refine enc_arg t f k d w _ _ _ ?_ (fun w => fits_any t w ht) (fun w => fits_any f w hf) (fun w => isgroup_any f w hf)
    rcases h with h | h | h
    · rw [decide_eq_false (by omega)]; rfl
    · rw [decide_eq_false (show ¬ f < 281474976710656 by omega)]; simp
    · rw [h]; simp
  · exact enc_long t f k d w h4 hm (fun w => fits_yes t w h1) (fun w => fits_yes f w h2) (fun w => by have := isgroup_any f w hf; rw [h3] at this; exact this)
  · exact enc_ok t f k d w ht hf hk h4 (fun w => fits_yes t w h1) (fun w => fits_yes f w h2) (fun w => by have := isgroup_any f w hf; rw [h3] at this; exact this)

end Go.Proofs.Ytdgjoconppmihaa
