/- The walk of the law AddrOrder, over the loaded program, by the answers of Compare: true; no memory that was there has turned. Condition: Env. -/
import Derived.Test.YtnglkadfnacmcaaDoorOrd6
namespace Go.Proofs.YtnglkadfnacmcaaDoor
open Go.RowKit

/-- three pairs that stand in blocks of the call's own -/
structure T3 (b0 : World) (k a p b q a' p' b' q' a'' p'' b'' q'' : Nat) (w : World) : Prop where
  bel : Below b0.heap.size b0 w
  one : PB w k a p b q
  two : PB w (k + 1) a' p' b' q'
  tri : PB w (k + 1 + 1) a'' p'' b'' q''
  env : Env w
theorem T3.on {b0 w w' : World} {k a p b q a' p' b' q' a'' p'' b'' q'' : Nat} (t : T3 b0 k a p b q a' p' b' q' a'' p'' b'' q'' w) (h : Below w.heap.size w w') : T3 b0 k a p b q a' p' b' q' a'' p'' b'' q'' w' :=
  ⟨tr2 t.bel h, t.one.on h, t.two.on h, t.tri.on h, t.env.on h⟩
theorem T3.start (w : World) (E : Env w) (a p b q a' p' b' q' a'' p'' b'' q'' : Nat) : T3 w w.heap.size a p b q a' p' b' q' a'' p'' b'' q'' (((w.alloc (.cells #[.int .u32 (a : Int), .int .u16 (p : Int), .int .u32 (b : Int), .int .u16 (q : Int)] 36)).alloc (.cells #[.int .u32 (a' : Int), .int .u16 (p' : Int), .int .u32 (b' : Int), .int .u16 (q' : Int)] 36)).alloc (.cells #[.int .u32 (a'' : Int), .int .u16 (p'' : Int), .int .u32 (b'' : Int), .int .u16 (q'' : Int)] 36)) := by
  have h1 := PB.new w a p b q 36
  have h2 := PB.two' w (.cells #[.int .u32 (a : Int), .int .u16 (p : Int), .int .u32 (b : Int), .int .u16 (q : Int)] 36) a' p' b' q' 36
  have h3 := PB.two' (w.alloc (.cells #[.int .u32 (a : Int), .int .u16 (p : Int), .int .u32 (b : Int), .int .u16 (q : Int)] 36)) (.cells #[.int .u32 (a' : Int), .int .u16 (p' : Int), .int .u32 (b' : Int), .int .u16 (q' : Int)] 36) a'' p'' b'' q'' 36
  rw [show (w.alloc (.cells #[.int .u32 (a : Int), .int .u16 (p : Int), .int .u32 (b : Int), .int .u16 (q : Int)] 36)).heap.size = w.heap.size + 1 by simp] at h3
  have g1 := below_one w (.cells #[.int .u32 (a : Int), .int .u16 (p : Int), .int .u32 (b : Int), .int .u16 (q : Int)] 36)
  have g2 := below_one (w.alloc (.cells #[.int .u32 (a : Int), .int .u16 (p : Int), .int .u32 (b : Int), .int .u16 (q : Int)] 36)) (.cells #[.int .u32 (a' : Int), .int .u16 (p' : Int), .int .u32 (b' : Int), .int .u16 (q' : Int)] 36)
  have g3 := below_one ((w.alloc (.cells #[.int .u32 (a : Int), .int .u16 (p : Int), .int .u32 (b : Int), .int .u16 (q : Int)] 36)).alloc (.cells #[.int .u32 (a' : Int), .int .u16 (p' : Int), .int .u32 (b' : Int), .int .u16 (q' : Int)] 36)) (.cells #[.int .u32 (a'' : Int), .int .u16 (p'' : Int), .int .u32 (b'' : Int), .int .u16 (q'' : Int)] 36)
  exact ⟨tr2 (tr2 g1 g2) g3, (h1.on g2).on g3, h2.on g3, h3, E.on (tr2 (tr2 g1 g2) g3)⟩

set_option maxRecDepth 20000 in
set_option maxHeartbeats 2000000 in
theorem order_p (a p b q a' p' b' q' a'' p'' b'' q'' : Nat) (e1 : Bool) (X Y Z A4 B4 P2 Q2 : ByteArray) (w : World) (E : Env w)
    (hself : eqP a p b q a p b q = true) (ht : eqP b q a p a p b q = e1) (hf : decide (a = b ∧ p = q) = e1) (hab : eqP a p b q a' p' b' q' = false) (hXY : (X.toList == Y.toList) = false) (hz : X.size = 12)
    (x1 : X.extract 4 8 = B4) (x2 : X.extract 0 4 = A4) (x3 : X.extract 10 12 = Q2) (x4 : X.extract 8 10 = P2) (z1 : A4.size = 4) (z2 : B4.size = 4) (z3 : P2.size = 2) (z4 : Q2.size = 2) (HZ : Hid (B4 ++ A4 ++ Q2 ++ P2 = Z))
    (H1 : Hid (∀ w, Calls Tryd.prog 21 #[.agg #[.int .u32 (a : Int), .int .u16 (p : Int), .int .u32 (b : Int), .int .u16 (q : Int)]] w fun e w' => e = .returned (.string X) ∧ Below w.heap.size w w'))
    (H2 : Hid (∀ w, Calls Tryd.prog 21 #[.agg #[.int .u32 (a' : Int), .int .u16 (p' : Int), .int .u32 (b' : Int), .int .u16 (q' : Int)]] w fun e w' => e = .returned (.string Y) ∧ Below w.heap.size w w'))
    (H3 : Hid (∀ w, Calls Tryd.prog 21 #[.agg #[.int .u32 (b : Int), .int .u16 (q : Int), .int .u32 (a : Int), .int .u16 (p : Int)]] w fun e w' => e = .returned (.string Z) ∧ Below w.heap.size w w'))
    (H4 : Hid (∀ w, Calls Tryd.prog 23 #[.agg #[.int .u32 (a : Int), .int .u16 (p : Int), .int .u32 (b : Int), .int .u16 (q : Int)], .agg #[.int .u32 (a' : Int), .int .u16 (p' : Int), .int .u32 (b' : Int), .int .u16 (q' : Int)]] w fun e w' => e = .returned (.int .i64 (1)) ∧ Below w.heap.size w w'))
    (H5 : Hid (∀ w, Calls Tryd.prog 23 #[.agg #[.int .u32 (a' : Int), .int .u16 (p' : Int), .int .u32 (b' : Int), .int .u16 (q' : Int)], .agg #[.int .u32 (a : Int), .int .u16 (p : Int), .int .u32 (b : Int), .int .u16 (q : Int)]] w fun e w' => e = .returned (.int .i64 (-1)) ∧ Below w.heap.size w w'))
    : Calls Tryd.prog 7 #[.agg #[.int .u32 (a : Int), .int .u16 (p : Int), .int .u32 (b : Int), .int .u16 (q : Int)], .agg #[.int .u32 (a' : Int), .int .u16 (p' : Int), .int .u32 (b' : Int), .int .u16 (q' : Int)], .agg #[.int .u32 (a'' : Int), .int .u16 (p'' : Int), .int .u32 (b'' : Int), .int .u16 (q'' : Int)]] w fun e w' => e = .returned (.bool true) ∧ Below w.heap.size w w' := by
  have HT := hide (T3.start w E a p b q a' p' b' q' a'' p'' b'' q'')
  have n1 := fun w => neq_pair a p b q a p b q w
  rw [hself] at n1
  have n1' : ∀ w, (binOp .neq 36 (.agg #[.int .u32 (a : Int), .int .u16 (p : Int), .int .u32 (b : Int), .int .u16 (q : Int)]) (.agg #[.int .u32 (a : Int), .int .u16 (p : Int), .int .u32 (b : Int), .int .u16 (q : Int)])).run Tryd.prog w = .ok (.bool false) w := n1
  have n2 := fun w => eql_pair b q a p a p b q w
  rw [ht] at n2
  have n3 := fun w => eql_addr a p b q w
  rw [hf] at n3
  have n4 := fun w => eql_pair a p b q a' p' b' q' w
  rw [hab] at n4
  have hee : (e1 == e1) = true := by cases e1 <;> rfl
  have hne : (e1 != e1) = false := by cases e1 <;> rfl
  clear n1 hself ht hf hab
  go_enter Tryd.func7, Tryd.ntmps7
  go_wp2_with fail
  generalize ((w.alloc (.cells #[.int .u32 (a : Int), .int .u16 (p : Int), .int .u32 (b : Int), .int .u16 (q : Int)] 36)).alloc (.cells #[.int .u32 (a' : Int), .int .u16 (p' : Int), .int .u32 (b' : Int), .int .u16 (q' : Int)] 36)).alloc (.cells #[.int .u32 (a'' : Int), .int .u16 (p'' : Int), .int .u32 (b'' : Int), .int .u16 (q'' : Int)] 36) = w1 at *
  have T := unhide HT
  clear HT E
  obtain ⟨_, ⟨_, c10, c11, c12, c13⟩, ⟨_, d10, d11, d12, d13⟩, ⟨_, f10, f11, f12, f13⟩, _⟩ := id T
  have rc0 := cell_regrown c10
  have rc1 := cell_regrown c11
  have rc2 := cell_regrown c12
  have rc3 := cell_regrown c13
  have rd0 := cell_regrown d10
  have rd1 := cell_regrown d11
  have rd2 := cell_regrown d12
  have rd3 := cell_regrown d13
  have rf0 := cell_regrown f10
  have rf1 := cell_regrown f11
  have rf2 := cell_regrown f12
  have rf3 := cell_regrown f13
  have q0 := rgB (w := w1) (fun w => turn_any a p b q w)
  have q1 := rgB (w := w1) (fun w => turn_any b q a p w)
  have q2 := rgB (w := w1) (fun w => turn_any a p b q w)
  have q3 := rgB (w := w1) (unhide H1)
  have q4 := rgB (w := w1) (unhide H2)
  clear c10 c11 c12 c13 d10 d11 d12 d13 f10 f11 f12 f13
  try simp only [List.append]
  refine wp_region_quiet_below (by kernel_rfl) (by kernel_rfl) ?_
  repeat (quiet_step (fail))
  quiet_step (exact q0 _ _)
  repeat (quiet_step (fail))
  quiet_step (exact q1 _ _)
  repeat (quiet_step (fail))
  quiet_step (exact q2 _ _)
  repeat (quiet_step (fail))
  quiet_step (exact q3 _ _)
  repeat (quiet_step (fail))
  quiet_step (exact q4 _ _)
  repeat (quiet_step (fail))
  refine wpQuiet_nil ?_
  intro _ hw'
  obtain ⟨⟨dq, osq⟩, hw''⟩ := hw'
  subst hw''
  have T2 := T.on (below_regrown w1 dq osq)
  clear T rc0 rc1 rc2 rc3 rd0 rd1 rd2 rd3 rf0 rf1 rf2 rf3 q0 q1 q2 q3 q4
  have KK := hide T2
  clear T2
  generalize Sort.grow (redrawn w1 dq) osq = w2 at *
  have T2 := unhide KK
  clear KK
  obtain ⟨_, ⟨_, c20, c21, c22, c23⟩, ⟨_, d20, d21, d22, d23⟩, ⟨_, f20, f21, f22, f23⟩, _⟩ := id T2
  go_wp2_with fail
  refine (unhide H1 _).mono ?_
  rintro e w3 ⟨rfl, b3⟩
  have T4 := T2.on b3
  clear b3 T2 c20 c21 c22 c23 d20 d21 d22 d23 f20 f21 f22 f23
  obtain ⟨_, ⟨_, c30, c31, c32, c33⟩, ⟨_, d30, d31, d32, d33⟩, ⟨_, f30, f31, f32, f33⟩, _⟩ := id T4
  go_wp2_with fail
  have m1 : ¬ 9223372036854775807 < 4 + 4 := by omega
  have hcat := unhide HZ
  obtain ⟨P1, g1⟩ : ∃ P, B4 ++ A4 = P := ⟨_, rfl⟩
  rw [g1] at hcat
  have t1 : P1.size = 8 := by rw [← g1, ByteArray.size_append]; omega
  obtain ⟨P3, g3⟩ : ∃ P, P1 ++ Q2 = P := ⟨_, rfl⟩
  rw [g3] at hcat
  have t3 : P3.size = 10 := by rw [← g3, ByteArray.size_append]; omega
  have hZZ : (Z.toList == Z.toList) = true := by simp
  have rc0 := cell_regrown c30
  have rc1 := cell_regrown c31
  have rc2 := cell_regrown c32
  have rc3 := cell_regrown c33
  have rd0 := cell_regrown d30
  have rd1 := cell_regrown d31
  have rd2 := cell_regrown d32
  have rd3 := cell_regrown d33
  have rf0 := cell_regrown f30
  have rf1 := cell_regrown f31
  have rf2 := cell_regrown f32
  have rf3 := cell_regrown f33
  have q0 := rgB (w := w3) (fun w => turn_any a p b q w)
  have q1 := rgB (w := w3) (unhide H3)
  clear c30 c31 c32 c33 d30 d31 d32 d33 f30 f31 f32 f33
  try simp only [List.append]
  refine wp_region_quiet_below (by kernel_rfl) (by kernel_rfl) ?_
  repeat (quiet_step (fail))
  quiet_step (exact q0 _ _)
  repeat (quiet_step (fail))
  quiet_step (exact q1 _ _)
  repeat (quiet_step (fail))
  refine wpQuiet_nil ?_
  intro _ hw'
  obtain ⟨⟨dq, osq⟩, hw''⟩ := hw'
  subst hw''
  have T5 := T4.on (below_regrown w3 dq osq)
  clear T4 rc0 rc1 rc2 rc3 rd0 rd1 rd2 rd3 rf0 rf1 rf2 rf3 q0 q1
  have KK := hide T5
  clear T5
  generalize Sort.grow (redrawn w3 dq) osq = w4 at *
  have T5 := unhide KK
  clear KK
  obtain ⟨_, ⟨_, c40, c41, c42, c43⟩, ⟨_, d40, d41, d42, d43⟩, ⟨_, f40, f41, f42, f43⟩, _⟩ := id T5
  go_wp2_with fail
  refine (unhide H4 _).mono ?_
  rintro e w5 ⟨rfl, b5⟩
  have T6 := T5.on b5
  clear b5 T5 c40 c41 c42 c43 d40 d41 d42 d43 f40 f41 f42 f43
  obtain ⟨_, ⟨_, c50, c51, c52, c53⟩, ⟨_, d50, d51, d52, d53⟩, ⟨_, f50, f51, f52, f53⟩, _⟩ := id T6
  go_wp2_with fail
  refine (unhide H5 _).mono ?_
  rintro e w6 ⟨rfl, b6⟩
  have T7 := T6.on b6
  clear b6 T6 c50 c51 c52 c53 d50 d51 d52 d53 f50 f51 f52 f53
  obtain ⟨_, ⟨_, c60, c61, c62, c63⟩, ⟨_, d60, d61, d62, d63⟩, ⟨_, f60, f61, f62, f63⟩, _⟩ := id T7
  have H8 := hide alive_any
  go_wp2_with fail
  refine (unhide H8 _ T7.env).mono ?_
  rintro e w9 ⟨rfl, b9⟩
  go_wp2_with fail
  go_ret
  exact ⟨rfl, tr2 T7.bel b9⟩

set_option maxRecDepth 20000 in
set_option maxHeartbeats 2000000 in
theorem order_zt (a p b q a' p' b' q' a'' p'' b'' q'' : Nat) (e1 : Bool) (cbc : Int) (X Y Z A4 B4 P2 Q2 : ByteArray) (w : World) (E : Env w)
    (hself : eqP a p b q a p b q = true) (ht : eqP b q a p a p b q = e1) (hf : decide (a = b ∧ p = q) = e1) (hab : eqP a p b q a' p' b' q' = true) (hXY : (X.toList == Y.toList) = true) (hz : X.size = 12)
    (x1 : X.extract 4 8 = B4) (x2 : X.extract 0 4 = A4) (x3 : X.extract 10 12 = Q2) (x4 : X.extract 8 10 = P2) (z1 : A4.size = 4) (z2 : B4.size = 4) (z3 : P2.size = 2) (z4 : Q2.size = 2) (HZ : Hid (B4 ++ A4 ++ Q2 ++ P2 = Z))
    (hbc : 0 < cbc)
    (H1 : Hid (∀ w, Calls Tryd.prog 21 #[.agg #[.int .u32 (a : Int), .int .u16 (p : Int), .int .u32 (b : Int), .int .u16 (q : Int)]] w fun e w' => e = .returned (.string X) ∧ Below w.heap.size w w'))
    (H2 : Hid (∀ w, Calls Tryd.prog 21 #[.agg #[.int .u32 (a' : Int), .int .u16 (p' : Int), .int .u32 (b' : Int), .int .u16 (q' : Int)]] w fun e w' => e = .returned (.string Y) ∧ Below w.heap.size w w'))
    (H3 : Hid (∀ w, Calls Tryd.prog 21 #[.agg #[.int .u32 (b : Int), .int .u16 (q : Int), .int .u32 (a : Int), .int .u16 (p : Int)]] w fun e w' => e = .returned (.string Z) ∧ Below w.heap.size w w'))
    (H4 : Hid (∀ w, Calls Tryd.prog 23 #[.agg #[.int .u32 (a : Int), .int .u16 (p : Int), .int .u32 (b : Int), .int .u16 (q : Int)], .agg #[.int .u32 (a' : Int), .int .u16 (p' : Int), .int .u32 (b' : Int), .int .u16 (q' : Int)]] w fun e w' => e = .returned (.int .i64 (0)) ∧ Below w.heap.size w w'))
    (H5 : Hid (∀ w, Calls Tryd.prog 23 #[.agg #[.int .u32 (a' : Int), .int .u16 (p' : Int), .int .u32 (b' : Int), .int .u16 (q' : Int)], .agg #[.int .u32 (a : Int), .int .u16 (p : Int), .int .u32 (b : Int), .int .u16 (q : Int)]] w fun e w' => e = .returned (.int .i64 (0)) ∧ Below w.heap.size w w'))
    (H6 : Hid (∀ w, Calls Tryd.prog 23 #[.agg #[.int .u32 (a' : Int), .int .u16 (p' : Int), .int .u32 (b' : Int), .int .u16 (q' : Int)], .agg #[.int .u32 (a'' : Int), .int .u16 (p'' : Int), .int .u32 (b'' : Int), .int .u16 (q'' : Int)]] w fun e w' => e = .returned (.int .i64 cbc) ∧ Below w.heap.size w w'))
    : Calls Tryd.prog 7 #[.agg #[.int .u32 (a : Int), .int .u16 (p : Int), .int .u32 (b : Int), .int .u16 (q : Int)], .agg #[.int .u32 (a' : Int), .int .u16 (p' : Int), .int .u32 (b' : Int), .int .u16 (q' : Int)], .agg #[.int .u32 (a'' : Int), .int .u16 (p'' : Int), .int .u32 (b'' : Int), .int .u16 (q'' : Int)]] w fun e w' => e = .returned (.bool true) ∧ Below w.heap.size w w' := by
  have HT := hide (T3.start w E a p b q a' p' b' q' a'' p'' b'' q'')
  have n1 := fun w => neq_pair a p b q a p b q w
  rw [hself] at n1
  have n1' : ∀ w, (binOp .neq 36 (.agg #[.int .u32 (a : Int), .int .u16 (p : Int), .int .u32 (b : Int), .int .u16 (q : Int)]) (.agg #[.int .u32 (a : Int), .int .u16 (p : Int), .int .u32 (b : Int), .int .u16 (q : Int)])).run Tryd.prog w = .ok (.bool false) w := n1
  have n2 := fun w => eql_pair b q a p a p b q w
  rw [ht] at n2
  have n3 := fun w => eql_addr a p b q w
  rw [hf] at n3
  have n4 := fun w => eql_pair a p b q a' p' b' q' w
  rw [hab] at n4
  have hee : (e1 == e1) = true := by cases e1 <;> rfl
  have hne : (e1 != e1) = false := by cases e1 <;> rfl
  clear n1 hself ht hf hab
  go_enter Tryd.func7, Tryd.ntmps7
  go_wp2_with fail
  generalize ((w.alloc (.cells #[.int .u32 (a : Int), .int .u16 (p : Int), .int .u32 (b : Int), .int .u16 (q : Int)] 36)).alloc (.cells #[.int .u32 (a' : Int), .int .u16 (p' : Int), .int .u32 (b' : Int), .int .u16 (q' : Int)] 36)).alloc (.cells #[.int .u32 (a'' : Int), .int .u16 (p'' : Int), .int .u32 (b'' : Int), .int .u16 (q'' : Int)] 36) = w1 at *
  have T := unhide HT
  clear HT E
  obtain ⟨_, ⟨_, c10, c11, c12, c13⟩, ⟨_, d10, d11, d12, d13⟩, ⟨_, f10, f11, f12, f13⟩, _⟩ := id T
  have rc0 := cell_regrown c10
  have rc1 := cell_regrown c11
  have rc2 := cell_regrown c12
  have rc3 := cell_regrown c13
  have rd0 := cell_regrown d10
  have rd1 := cell_regrown d11
  have rd2 := cell_regrown d12
  have rd3 := cell_regrown d13
  have rf0 := cell_regrown f10
  have rf1 := cell_regrown f11
  have rf2 := cell_regrown f12
  have rf3 := cell_regrown f13
  have q0 := rgB (w := w1) (fun w => turn_any a p b q w)
  have q1 := rgB (w := w1) (fun w => turn_any b q a p w)
  have q2 := rgB (w := w1) (fun w => turn_any a p b q w)
  have q3 := rgB (w := w1) (unhide H1)
  have q4 := rgB (w := w1) (unhide H2)
  clear c10 c11 c12 c13 d10 d11 d12 d13 f10 f11 f12 f13
  try simp only [List.append]
  refine wp_region_quiet_below (by kernel_rfl) (by kernel_rfl) ?_
  repeat (quiet_step (fail))
  quiet_step (exact q0 _ _)
  repeat (quiet_step (fail))
  quiet_step (exact q1 _ _)
  repeat (quiet_step (fail))
  quiet_step (exact q2 _ _)
  repeat (quiet_step (fail))
  quiet_step (exact q3 _ _)
  repeat (quiet_step (fail))
  quiet_step (exact q4 _ _)
  repeat (quiet_step (fail))
  refine wpQuiet_nil ?_
  intro _ hw'
  obtain ⟨⟨dq, osq⟩, hw''⟩ := hw'
  subst hw''
  have T2 := T.on (below_regrown w1 dq osq)
  clear T rc0 rc1 rc2 rc3 rd0 rd1 rd2 rd3 rf0 rf1 rf2 rf3 q0 q1 q2 q3 q4
  have KK := hide T2
  clear T2
  generalize Sort.grow (redrawn w1 dq) osq = w2 at *
  have T2 := unhide KK
  clear KK
  obtain ⟨_, ⟨_, c20, c21, c22, c23⟩, ⟨_, d20, d21, d22, d23⟩, ⟨_, f20, f21, f22, f23⟩, _⟩ := id T2
  go_wp2_with fail
  refine (unhide H1 _).mono ?_
  rintro e w3 ⟨rfl, b3⟩
  have T4 := T2.on b3
  clear b3 T2 c20 c21 c22 c23 d20 d21 d22 d23 f20 f21 f22 f23
  obtain ⟨_, ⟨_, c30, c31, c32, c33⟩, ⟨_, d30, d31, d32, d33⟩, ⟨_, f30, f31, f32, f33⟩, _⟩ := id T4
  go_wp2_with fail
  have m1 : ¬ 9223372036854775807 < 4 + 4 := by omega
  have hcat := unhide HZ
  obtain ⟨P1, g1⟩ : ∃ P, B4 ++ A4 = P := ⟨_, rfl⟩
  rw [g1] at hcat
  have t1 : P1.size = 8 := by rw [← g1, ByteArray.size_append]; omega
  obtain ⟨P3, g3⟩ : ∃ P, P1 ++ Q2 = P := ⟨_, rfl⟩
  rw [g3] at hcat
  have t3 : P3.size = 10 := by rw [← g3, ByteArray.size_append]; omega
  have hZZ : (Z.toList == Z.toList) = true := by simp
  have rc0 := cell_regrown c30
  have rc1 := cell_regrown c31
  have rc2 := cell_regrown c32
  have rc3 := cell_regrown c33
  have rd0 := cell_regrown d30
  have rd1 := cell_regrown d31
  have rd2 := cell_regrown d32
  have rd3 := cell_regrown d33
  have rf0 := cell_regrown f30
  have rf1 := cell_regrown f31
  have rf2 := cell_regrown f32
  have rf3 := cell_regrown f33
  have q0 := rgB (w := w3) (fun w => turn_any a p b q w)
  have q1 := rgB (w := w3) (unhide H3)
  clear c30 c31 c32 c33 d30 d31 d32 d33 f30 f31 f32 f33
  try simp only [List.append]
  refine wp_region_quiet_below (by kernel_rfl) (by kernel_rfl) ?_
  repeat (quiet_step (fail))
  quiet_step (exact q0 _ _)
  repeat (quiet_step (fail))
  quiet_step (exact q1 _ _)
  repeat (quiet_step (fail))
  refine wpQuiet_nil ?_
  intro _ hw'
  obtain ⟨⟨dq, osq⟩, hw''⟩ := hw'
  subst hw''
  have T5 := T4.on (below_regrown w3 dq osq)
  clear T4 rc0 rc1 rc2 rc3 rd0 rd1 rd2 rd3 rf0 rf1 rf2 rf3 q0 q1
  have KK := hide T5
  clear T5
  generalize Sort.grow (redrawn w3 dq) osq = w4 at *
  have T5 := unhide KK
  clear KK
  obtain ⟨_, ⟨_, c40, c41, c42, c43⟩, ⟨_, d40, d41, d42, d43⟩, ⟨_, f40, f41, f42, f43⟩, _⟩ := id T5
  go_wp2_with fail
  refine (unhide H4 _).mono ?_
  rintro e w5 ⟨rfl, b5⟩
  have T6 := T5.on b5
  clear b5 T5 c40 c41 c42 c43 d40 d41 d42 d43 f40 f41 f42 f43
  obtain ⟨_, ⟨_, c50, c51, c52, c53⟩, ⟨_, d50, d51, d52, d53⟩, ⟨_, f50, f51, f52, f53⟩, _⟩ := id T6
  go_wp2_with fail
  refine (unhide H5 _).mono ?_
  rintro e w6 ⟨rfl, b6⟩
  have T7 := T6.on b6
  clear b6 T6 c50 c51 c52 c53 d50 d51 d52 d53 f50 f51 f52 f53
  obtain ⟨_, ⟨_, c60, c61, c62, c63⟩, ⟨_, d60, d61, d62, d63⟩, ⟨_, f60, f61, f62, f63⟩, _⟩ := id T7
  go_wp2_with fail
  refine (unhide H6 _).mono ?_
  rintro e w7 ⟨rfl, b7⟩
  have T8 := T7.on b7
  clear b7 T7 c60 c61 c62 c63 d60 d61 d62 d63 f60 f61 f62 f63
  obtain ⟨_, ⟨_, c70, c71, c72, c73⟩, ⟨_, d70, d71, d72, d73⟩, ⟨_, f70, f71, f72, f73⟩, _⟩ := id T8
  have H8 := hide alive_any
  go_wp2_with fail
  refine (unhide H8 _ T8.env).mono ?_
  rintro e w9 ⟨rfl, b9⟩
  go_wp2_with fail
  go_ret
  exact ⟨rfl, tr2 T8.bel b9⟩

set_option maxRecDepth 20000 in
set_option maxHeartbeats 2000000 in
theorem order_zf (a p b q a' p' b' q' a'' p'' b'' q'' : Nat) (e1 : Bool) (cbc cac : Int) (X Y Z A4 B4 P2 Q2 : ByteArray) (w : World) (E : Env w)
    (hself : eqP a p b q a p b q = true) (ht : eqP b q a p a p b q = e1) (hf : decide (a = b ∧ p = q) = e1) (hab : eqP a p b q a' p' b' q' = true) (hXY : (X.toList == Y.toList) = true) (hz : X.size = 12)
    (x1 : X.extract 4 8 = B4) (x2 : X.extract 0 4 = A4) (x3 : X.extract 10 12 = Q2) (x4 : X.extract 8 10 = P2) (z1 : A4.size = 4) (z2 : B4.size = 4) (z3 : P2.size = 2) (z4 : Q2.size = 2) (HZ : Hid (B4 ++ A4 ++ Q2 ++ P2 = Z))
    (hbc : cbc ≤ 0) (hac : cac ≤ 0)
    (H1 : Hid (∀ w, Calls Tryd.prog 21 #[.agg #[.int .u32 (a : Int), .int .u16 (p : Int), .int .u32 (b : Int), .int .u16 (q : Int)]] w fun e w' => e = .returned (.string X) ∧ Below w.heap.size w w'))
    (H2 : Hid (∀ w, Calls Tryd.prog 21 #[.agg #[.int .u32 (a' : Int), .int .u16 (p' : Int), .int .u32 (b' : Int), .int .u16 (q' : Int)]] w fun e w' => e = .returned (.string Y) ∧ Below w.heap.size w w'))
    (H3 : Hid (∀ w, Calls Tryd.prog 21 #[.agg #[.int .u32 (b : Int), .int .u16 (q : Int), .int .u32 (a : Int), .int .u16 (p : Int)]] w fun e w' => e = .returned (.string Z) ∧ Below w.heap.size w w'))
    (H4 : Hid (∀ w, Calls Tryd.prog 23 #[.agg #[.int .u32 (a : Int), .int .u16 (p : Int), .int .u32 (b : Int), .int .u16 (q : Int)], .agg #[.int .u32 (a' : Int), .int .u16 (p' : Int), .int .u32 (b' : Int), .int .u16 (q' : Int)]] w fun e w' => e = .returned (.int .i64 (0)) ∧ Below w.heap.size w w'))
    (H5 : Hid (∀ w, Calls Tryd.prog 23 #[.agg #[.int .u32 (a' : Int), .int .u16 (p' : Int), .int .u32 (b' : Int), .int .u16 (q' : Int)], .agg #[.int .u32 (a : Int), .int .u16 (p : Int), .int .u32 (b : Int), .int .u16 (q : Int)]] w fun e w' => e = .returned (.int .i64 (0)) ∧ Below w.heap.size w w'))
    (H6 : Hid (∀ w, Calls Tryd.prog 23 #[.agg #[.int .u32 (a' : Int), .int .u16 (p' : Int), .int .u32 (b' : Int), .int .u16 (q' : Int)], .agg #[.int .u32 (a'' : Int), .int .u16 (p'' : Int), .int .u32 (b'' : Int), .int .u16 (q'' : Int)]] w fun e w' => e = .returned (.int .i64 cbc) ∧ Below w.heap.size w w'))
    (H7 : Hid (∀ w, Calls Tryd.prog 23 #[.agg #[.int .u32 (a : Int), .int .u16 (p : Int), .int .u32 (b : Int), .int .u16 (q : Int)], .agg #[.int .u32 (a'' : Int), .int .u16 (p'' : Int), .int .u32 (b'' : Int), .int .u16 (q'' : Int)]] w fun e w' => e = .returned (.int .i64 cac) ∧ Below w.heap.size w w'))
    : Calls Tryd.prog 7 #[.agg #[.int .u32 (a : Int), .int .u16 (p : Int), .int .u32 (b : Int), .int .u16 (q : Int)], .agg #[.int .u32 (a' : Int), .int .u16 (p' : Int), .int .u32 (b' : Int), .int .u16 (q' : Int)], .agg #[.int .u32 (a'' : Int), .int .u16 (p'' : Int), .int .u32 (b'' : Int), .int .u16 (q'' : Int)]] w fun e w' => e = .returned (.bool true) ∧ Below w.heap.size w w' := by
  have HT := hide (T3.start w E a p b q a' p' b' q' a'' p'' b'' q'')
  have n1 := fun w => neq_pair a p b q a p b q w
  rw [hself] at n1
  have n1' : ∀ w, (binOp .neq 36 (.agg #[.int .u32 (a : Int), .int .u16 (p : Int), .int .u32 (b : Int), .int .u16 (q : Int)]) (.agg #[.int .u32 (a : Int), .int .u16 (p : Int), .int .u32 (b : Int), .int .u16 (q : Int)])).run Tryd.prog w = .ok (.bool false) w := n1
  have n2 := fun w => eql_pair b q a p a p b q w
  rw [ht] at n2
  have n3 := fun w => eql_addr a p b q w
  rw [hf] at n3
  have n4 := fun w => eql_pair a p b q a' p' b' q' w
  rw [hab] at n4
  have hee : (e1 == e1) = true := by cases e1 <;> rfl
  have hne : (e1 != e1) = false := by cases e1 <;> rfl
  clear n1 hself ht hf hab
  go_enter Tryd.func7, Tryd.ntmps7
  go_wp2_with fail
  generalize ((w.alloc (.cells #[.int .u32 (a : Int), .int .u16 (p : Int), .int .u32 (b : Int), .int .u16 (q : Int)] 36)).alloc (.cells #[.int .u32 (a' : Int), .int .u16 (p' : Int), .int .u32 (b' : Int), .int .u16 (q' : Int)] 36)).alloc (.cells #[.int .u32 (a'' : Int), .int .u16 (p'' : Int), .int .u32 (b'' : Int), .int .u16 (q'' : Int)] 36) = w1 at *
  have T := unhide HT
  clear HT E
  obtain ⟨_, ⟨_, c10, c11, c12, c13⟩, ⟨_, d10, d11, d12, d13⟩, ⟨_, f10, f11, f12, f13⟩, _⟩ := id T
  have rc0 := cell_regrown c10
  have rc1 := cell_regrown c11
  have rc2 := cell_regrown c12
  have rc3 := cell_regrown c13
  have rd0 := cell_regrown d10
  have rd1 := cell_regrown d11
  have rd2 := cell_regrown d12
  have rd3 := cell_regrown d13
  have rf0 := cell_regrown f10
  have rf1 := cell_regrown f11
  have rf2 := cell_regrown f12
  have rf3 := cell_regrown f13
  have q0 := rgB (w := w1) (fun w => turn_any a p b q w)
  have q1 := rgB (w := w1) (fun w => turn_any b q a p w)
  have q2 := rgB (w := w1) (fun w => turn_any a p b q w)
  have q3 := rgB (w := w1) (unhide H1)
  have q4 := rgB (w := w1) (unhide H2)
  clear c10 c11 c12 c13 d10 d11 d12 d13 f10 f11 f12 f13
  try simp only [List.append]
  refine wp_region_quiet_below (by kernel_rfl) (by kernel_rfl) ?_
  repeat (quiet_step (fail))
  quiet_step (exact q0 _ _)
  repeat (quiet_step (fail))
  quiet_step (exact q1 _ _)
  repeat (quiet_step (fail))
  quiet_step (exact q2 _ _)
  repeat (quiet_step (fail))
  quiet_step (exact q3 _ _)
  repeat (quiet_step (fail))
  quiet_step (exact q4 _ _)
  repeat (quiet_step (fail))
  refine wpQuiet_nil ?_
  intro _ hw'
  obtain ⟨⟨dq, osq⟩, hw''⟩ := hw'
  subst hw''
  have T2 := T.on (below_regrown w1 dq osq)
  clear T rc0 rc1 rc2 rc3 rd0 rd1 rd2 rd3 rf0 rf1 rf2 rf3 q0 q1 q2 q3 q4
  have KK := hide T2
  clear T2
  generalize Sort.grow (redrawn w1 dq) osq = w2 at *
  have T2 := unhide KK
  clear KK
  obtain ⟨_, ⟨_, c20, c21, c22, c23⟩, ⟨_, d20, d21, d22, d23⟩, ⟨_, f20, f21, f22, f23⟩, _⟩ := id T2
  go_wp2_with fail
  refine (unhide H1 _).mono ?_
  rintro e w3 ⟨rfl, b3⟩
  have T4 := T2.on b3
  clear b3 T2 c20 c21 c22 c23 d20 d21 d22 d23 f20 f21 f22 f23
  obtain ⟨_, ⟨_, c30, c31, c32, c33⟩, ⟨_, d30, d31, d32, d33⟩, ⟨_, f30, f31, f32, f33⟩, _⟩ := id T4
  go_wp2_with fail
  have m1 : ¬ 9223372036854775807 < 4 + 4 := by omega
  have hcat := unhide HZ
  obtain ⟨P1, g1⟩ : ∃ P, B4 ++ A4 = P := ⟨_, rfl⟩
  rw [g1] at hcat
  have t1 : P1.size = 8 := by rw [← g1, ByteArray.size_append]; omega
  obtain ⟨P3, g3⟩ : ∃ P, P1 ++ Q2 = P := ⟨_, rfl⟩
  rw [g3] at hcat
  have t3 : P3.size = 10 := by rw [← g3, ByteArray.size_append]; omega
  have hZZ : (Z.toList == Z.toList) = true := by simp
  have rc0 := cell_regrown c30
  have rc1 := cell_regrown c31
  have rc2 := cell_regrown c32
  have rc3 := cell_regrown c33
  have rd0 := cell_regrown d30
  have rd1 := cell_regrown d31
  have rd2 := cell_regrown d32
  have rd3 := cell_regrown d33
  have rf0 := cell_regrown f30
  have rf1 := cell_regrown f31
  have rf2 := cell_regrown f32
  have rf3 := cell_regrown f33
  have q0 := rgB (w := w3) (fun w => turn_any a p b q w)
  have q1 := rgB (w := w3) (unhide H3)
  clear c30 c31 c32 c33 d30 d31 d32 d33 f30 f31 f32 f33
  try simp only [List.append]
  refine wp_region_quiet_below (by kernel_rfl) (by kernel_rfl) ?_
  repeat (quiet_step (fail))
  quiet_step (exact q0 _ _)
  repeat (quiet_step (fail))
  quiet_step (exact q1 _ _)
  repeat (quiet_step (fail))
  refine wpQuiet_nil ?_
  intro _ hw'
  obtain ⟨⟨dq, osq⟩, hw''⟩ := hw'
  subst hw''
  have T5 := T4.on (below_regrown w3 dq osq)
  clear T4 rc0 rc1 rc2 rc3 rd0 rd1 rd2 rd3 rf0 rf1 rf2 rf3 q0 q1
  have KK := hide T5
  clear T5
  generalize Sort.grow (redrawn w3 dq) osq = w4 at *
  have T5 := unhide KK
  clear KK
  obtain ⟨_, ⟨_, c40, c41, c42, c43⟩, ⟨_, d40, d41, d42, d43⟩, ⟨_, f40, f41, f42, f43⟩, _⟩ := id T5
  go_wp2_with fail
  refine (unhide H4 _).mono ?_
  rintro e w5 ⟨rfl, b5⟩
  have T6 := T5.on b5
  clear b5 T5 c40 c41 c42 c43 d40 d41 d42 d43 f40 f41 f42 f43
  obtain ⟨_, ⟨_, c50, c51, c52, c53⟩, ⟨_, d50, d51, d52, d53⟩, ⟨_, f50, f51, f52, f53⟩, _⟩ := id T6
  go_wp2_with fail
  refine (unhide H5 _).mono ?_
  rintro e w6 ⟨rfl, b6⟩
  have T7 := T6.on b6
  clear b6 T6 c50 c51 c52 c53 d50 d51 d52 d53 f50 f51 f52 f53
  obtain ⟨_, ⟨_, c60, c61, c62, c63⟩, ⟨_, d60, d61, d62, d63⟩, ⟨_, f60, f61, f62, f63⟩, _⟩ := id T7
  go_wp2_with fail
  refine (unhide H6 _).mono ?_
  rintro e w7 ⟨rfl, b7⟩
  have T8 := T7.on b7
  clear b7 T7 c60 c61 c62 c63 d60 d61 d62 d63 f60 f61 f62 f63
  obtain ⟨_, ⟨_, c70, c71, c72, c73⟩, ⟨_, d70, d71, d72, d73⟩, ⟨_, f70, f71, f72, f73⟩, _⟩ := id T8
  go_wp2_with fail
  refine (unhide H7 _).mono ?_
  rintro e w8 ⟨rfl, b8⟩
  have T9 := T8.on b8
  clear b8 T8 c70 c71 c72 c73 d70 d71 d72 d73 f70 f71 f72 f73
  obtain ⟨_, ⟨_, c80, c81, c82, c83⟩, ⟨_, d80, d81, d82, d83⟩, ⟨_, f80, f81, f82, f83⟩, _⟩ := id T9
  have H8 := hide alive_any
  go_wp2_with fail
  refine (unhide H8 _ T9.env).mono ?_
  rintro e w9 ⟨rfl, b9⟩
  go_wp2_with fail
  go_ret
  exact ⟨rfl, tr2 T9.bel b9⟩

set_option maxRecDepth 20000 in
set_option maxHeartbeats 2000000 in
theorem order_nt (a p b q a' p' b' q' a'' p'' b'' q'' : Nat) (e1 : Bool) (cbc : Int) (X Y Z A4 B4 P2 Q2 : ByteArray) (w : World) (E : Env w)
    (hself : eqP a p b q a p b q = true) (ht : eqP b q a p a p b q = e1) (hf : decide (a = b ∧ p = q) = e1) (hab : eqP a p b q a' p' b' q' = false) (hXY : (X.toList == Y.toList) = false) (hz : X.size = 12)
    (x1 : X.extract 4 8 = B4) (x2 : X.extract 0 4 = A4) (x3 : X.extract 10 12 = Q2) (x4 : X.extract 8 10 = P2) (z1 : A4.size = 4) (z2 : B4.size = 4) (z3 : P2.size = 2) (z4 : Q2.size = 2) (HZ : Hid (B4 ++ A4 ++ Q2 ++ P2 = Z))
    (hbc : 0 < cbc)
    (H1 : Hid (∀ w, Calls Tryd.prog 21 #[.agg #[.int .u32 (a : Int), .int .u16 (p : Int), .int .u32 (b : Int), .int .u16 (q : Int)]] w fun e w' => e = .returned (.string X) ∧ Below w.heap.size w w'))
    (H2 : Hid (∀ w, Calls Tryd.prog 21 #[.agg #[.int .u32 (a' : Int), .int .u16 (p' : Int), .int .u32 (b' : Int), .int .u16 (q' : Int)]] w fun e w' => e = .returned (.string Y) ∧ Below w.heap.size w w'))
    (H3 : Hid (∀ w, Calls Tryd.prog 21 #[.agg #[.int .u32 (b : Int), .int .u16 (q : Int), .int .u32 (a : Int), .int .u16 (p : Int)]] w fun e w' => e = .returned (.string Z) ∧ Below w.heap.size w w'))
    (H4 : Hid (∀ w, Calls Tryd.prog 23 #[.agg #[.int .u32 (a : Int), .int .u16 (p : Int), .int .u32 (b : Int), .int .u16 (q : Int)], .agg #[.int .u32 (a' : Int), .int .u16 (p' : Int), .int .u32 (b' : Int), .int .u16 (q' : Int)]] w fun e w' => e = .returned (.int .i64 (-1)) ∧ Below w.heap.size w w'))
    (H5 : Hid (∀ w, Calls Tryd.prog 23 #[.agg #[.int .u32 (a' : Int), .int .u16 (p' : Int), .int .u32 (b' : Int), .int .u16 (q' : Int)], .agg #[.int .u32 (a : Int), .int .u16 (p : Int), .int .u32 (b : Int), .int .u16 (q : Int)]] w fun e w' => e = .returned (.int .i64 (1)) ∧ Below w.heap.size w w'))
    (H6 : Hid (∀ w, Calls Tryd.prog 23 #[.agg #[.int .u32 (a' : Int), .int .u16 (p' : Int), .int .u32 (b' : Int), .int .u16 (q' : Int)], .agg #[.int .u32 (a'' : Int), .int .u16 (p'' : Int), .int .u32 (b'' : Int), .int .u16 (q'' : Int)]] w fun e w' => e = .returned (.int .i64 cbc) ∧ Below w.heap.size w w'))
    : Calls Tryd.prog 7 #[.agg #[.int .u32 (a : Int), .int .u16 (p : Int), .int .u32 (b : Int), .int .u16 (q : Int)], .agg #[.int .u32 (a' : Int), .int .u16 (p' : Int), .int .u32 (b' : Int), .int .u16 (q' : Int)], .agg #[.int .u32 (a'' : Int), .int .u16 (p'' : Int), .int .u32 (b'' : Int), .int .u16 (q'' : Int)]] w fun e w' => e = .returned (.bool true) ∧ Below w.heap.size w w' := by
  have HT := hide (T3.start w E a p b q a' p' b' q' a'' p'' b'' q'')
  have n1 := fun w => neq_pair a p b q a p b q w
  rw [hself] at n1
  have n1' : ∀ w, (binOp .neq 36 (.agg #[.int .u32 (a : Int), .int .u16 (p : Int), .int .u32 (b : Int), .int .u16 (q : Int)]) (.agg #[.int .u32 (a : Int), .int .u16 (p : Int), .int .u32 (b : Int), .int .u16 (q : Int)])).run Tryd.prog w = .ok (.bool false) w := n1
  have n2 := fun w => eql_pair b q a p a p b q w
  rw [ht] at n2
  have n3 := fun w => eql_addr a p b q w
  rw [hf] at n3
  have n4 := fun w => eql_pair a p b q a' p' b' q' w
  rw [hab] at n4
  have hee : (e1 == e1) = true := by cases e1 <;> rfl
  have hne : (e1 != e1) = false := by cases e1 <;> rfl
  clear n1 hself ht hf hab
  go_enter Tryd.func7, Tryd.ntmps7
  go_wp2_with fail
  generalize ((w.alloc (.cells #[.int .u32 (a : Int), .int .u16 (p : Int), .int .u32 (b : Int), .int .u16 (q : Int)] 36)).alloc (.cells #[.int .u32 (a' : Int), .int .u16 (p' : Int), .int .u32 (b' : Int), .int .u16 (q' : Int)] 36)).alloc (.cells #[.int .u32 (a'' : Int), .int .u16 (p'' : Int), .int .u32 (b'' : Int), .int .u16 (q'' : Int)] 36) = w1 at *
  have T := unhide HT
  clear HT E
  obtain ⟨_, ⟨_, c10, c11, c12, c13⟩, ⟨_, d10, d11, d12, d13⟩, ⟨_, f10, f11, f12, f13⟩, _⟩ := id T
  have rc0 := cell_regrown c10
  have rc1 := cell_regrown c11
  have rc2 := cell_regrown c12
  have rc3 := cell_regrown c13
  have rd0 := cell_regrown d10
  have rd1 := cell_regrown d11
  have rd2 := cell_regrown d12
  have rd3 := cell_regrown d13
  have rf0 := cell_regrown f10
  have rf1 := cell_regrown f11
  have rf2 := cell_regrown f12
  have rf3 := cell_regrown f13
  have q0 := rgB (w := w1) (fun w => turn_any a p b q w)
  have q1 := rgB (w := w1) (fun w => turn_any b q a p w)
  have q2 := rgB (w := w1) (fun w => turn_any a p b q w)
  have q3 := rgB (w := w1) (unhide H1)
  have q4 := rgB (w := w1) (unhide H2)
  clear c10 c11 c12 c13 d10 d11 d12 d13 f10 f11 f12 f13
  try simp only [List.append]
  refine wp_region_quiet_below (by kernel_rfl) (by kernel_rfl) ?_
  repeat (quiet_step (fail))
  quiet_step (exact q0 _ _)
  repeat (quiet_step (fail))
  quiet_step (exact q1 _ _)
  repeat (quiet_step (fail))
  quiet_step (exact q2 _ _)
  repeat (quiet_step (fail))
  quiet_step (exact q3 _ _)
  repeat (quiet_step (fail))
  quiet_step (exact q4 _ _)
  repeat (quiet_step (fail))
  refine wpQuiet_nil ?_
  intro _ hw'
  obtain ⟨⟨dq, osq⟩, hw''⟩ := hw'
  subst hw''
  have T2 := T.on (below_regrown w1 dq osq)
  clear T rc0 rc1 rc2 rc3 rd0 rd1 rd2 rd3 rf0 rf1 rf2 rf3 q0 q1 q2 q3 q4
  have KK := hide T2
  clear T2
  generalize Sort.grow (redrawn w1 dq) osq = w2 at *
  have T2 := unhide KK
  clear KK
  obtain ⟨_, ⟨_, c20, c21, c22, c23⟩, ⟨_, d20, d21, d22, d23⟩, ⟨_, f20, f21, f22, f23⟩, _⟩ := id T2
  go_wp2_with fail
  refine (unhide H1 _).mono ?_
  rintro e w3 ⟨rfl, b3⟩
  have T4 := T2.on b3
  clear b3 T2 c20 c21 c22 c23 d20 d21 d22 d23 f20 f21 f22 f23
  obtain ⟨_, ⟨_, c30, c31, c32, c33⟩, ⟨_, d30, d31, d32, d33⟩, ⟨_, f30, f31, f32, f33⟩, _⟩ := id T4
  go_wp2_with fail
  have m1 : ¬ 9223372036854775807 < 4 + 4 := by omega
  have hcat := unhide HZ
  obtain ⟨P1, g1⟩ : ∃ P, B4 ++ A4 = P := ⟨_, rfl⟩
  rw [g1] at hcat
  have t1 : P1.size = 8 := by rw [← g1, ByteArray.size_append]; omega
  obtain ⟨P3, g3⟩ : ∃ P, P1 ++ Q2 = P := ⟨_, rfl⟩
  rw [g3] at hcat
  have t3 : P3.size = 10 := by rw [← g3, ByteArray.size_append]; omega
  have hZZ : (Z.toList == Z.toList) = true := by simp
  have rc0 := cell_regrown c30
  have rc1 := cell_regrown c31
  have rc2 := cell_regrown c32
  have rc3 := cell_regrown c33
  have rd0 := cell_regrown d30
  have rd1 := cell_regrown d31
  have rd2 := cell_regrown d32
  have rd3 := cell_regrown d33
  have rf0 := cell_regrown f30
  have rf1 := cell_regrown f31
  have rf2 := cell_regrown f32
  have rf3 := cell_regrown f33
  have q0 := rgB (w := w3) (fun w => turn_any a p b q w)
  have q1 := rgB (w := w3) (unhide H3)
  clear c30 c31 c32 c33 d30 d31 d32 d33 f30 f31 f32 f33
  try simp only [List.append]
  refine wp_region_quiet_below (by kernel_rfl) (by kernel_rfl) ?_
  repeat (quiet_step (fail))
  quiet_step (exact q0 _ _)
  repeat (quiet_step (fail))
  quiet_step (exact q1 _ _)
  repeat (quiet_step (fail))
  refine wpQuiet_nil ?_
  intro _ hw'
  obtain ⟨⟨dq, osq⟩, hw''⟩ := hw'
  subst hw''
  have T5 := T4.on (below_regrown w3 dq osq)
  clear T4 rc0 rc1 rc2 rc3 rd0 rd1 rd2 rd3 rf0 rf1 rf2 rf3 q0 q1
  have KK := hide T5
  clear T5
  generalize Sort.grow (redrawn w3 dq) osq = w4 at *
  have T5 := unhide KK
  clear KK
  obtain ⟨_, ⟨_, c40, c41, c42, c43⟩, ⟨_, d40, d41, d42, d43⟩, ⟨_, f40, f41, f42, f43⟩, _⟩ := id T5
  go_wp2_with fail
  refine (unhide H4 _).mono ?_
  rintro e w5 ⟨rfl, b5⟩
  have T6 := T5.on b5
  clear b5 T5 c40 c41 c42 c43 d40 d41 d42 d43 f40 f41 f42 f43
  obtain ⟨_, ⟨_, c50, c51, c52, c53⟩, ⟨_, d50, d51, d52, d53⟩, ⟨_, f50, f51, f52, f53⟩, _⟩ := id T6
  go_wp2_with fail
  refine (unhide H5 _).mono ?_
  rintro e w6 ⟨rfl, b6⟩
  have T7 := T6.on b6
  clear b6 T6 c50 c51 c52 c53 d50 d51 d52 d53 f50 f51 f52 f53
  obtain ⟨_, ⟨_, c60, c61, c62, c63⟩, ⟨_, d60, d61, d62, d63⟩, ⟨_, f60, f61, f62, f63⟩, _⟩ := id T7
  go_wp2_with fail
  refine (unhide H6 _).mono ?_
  rintro e w7 ⟨rfl, b7⟩
  have T8 := T7.on b7
  clear b7 T7 c60 c61 c62 c63 d60 d61 d62 d63 f60 f61 f62 f63
  obtain ⟨_, ⟨_, c70, c71, c72, c73⟩, ⟨_, d70, d71, d72, d73⟩, ⟨_, f70, f71, f72, f73⟩, _⟩ := id T8
  have H8 := hide alive_any
  go_wp2_with fail
  refine (unhide H8 _ T8.env).mono ?_
  rintro e w9 ⟨rfl, b9⟩
  go_wp2_with fail
  go_ret
  exact ⟨rfl, tr2 T8.bel b9⟩

set_option maxRecDepth 20000 in
set_option maxHeartbeats 2000000 in
theorem order_nf (a p b q a' p' b' q' a'' p'' b'' q'' : Nat) (e1 : Bool) (cbc cac : Int) (X Y Z A4 B4 P2 Q2 : ByteArray) (w : World) (E : Env w)
    (hself : eqP a p b q a p b q = true) (ht : eqP b q a p a p b q = e1) (hf : decide (a = b ∧ p = q) = e1) (hab : eqP a p b q a' p' b' q' = false) (hXY : (X.toList == Y.toList) = false) (hz : X.size = 12)
    (x1 : X.extract 4 8 = B4) (x2 : X.extract 0 4 = A4) (x3 : X.extract 10 12 = Q2) (x4 : X.extract 8 10 = P2) (z1 : A4.size = 4) (z2 : B4.size = 4) (z3 : P2.size = 2) (z4 : Q2.size = 2) (HZ : Hid (B4 ++ A4 ++ Q2 ++ P2 = Z))
    (hbc : cbc ≤ 0) (hac : cac ≤ 0)
    (H1 : Hid (∀ w, Calls Tryd.prog 21 #[.agg #[.int .u32 (a : Int), .int .u16 (p : Int), .int .u32 (b : Int), .int .u16 (q : Int)]] w fun e w' => e = .returned (.string X) ∧ Below w.heap.size w w'))
    (H2 : Hid (∀ w, Calls Tryd.prog 21 #[.agg #[.int .u32 (a' : Int), .int .u16 (p' : Int), .int .u32 (b' : Int), .int .u16 (q' : Int)]] w fun e w' => e = .returned (.string Y) ∧ Below w.heap.size w w'))
    (H3 : Hid (∀ w, Calls Tryd.prog 21 #[.agg #[.int .u32 (b : Int), .int .u16 (q : Int), .int .u32 (a : Int), .int .u16 (p : Int)]] w fun e w' => e = .returned (.string Z) ∧ Below w.heap.size w w'))
    (H4 : Hid (∀ w, Calls Tryd.prog 23 #[.agg #[.int .u32 (a : Int), .int .u16 (p : Int), .int .u32 (b : Int), .int .u16 (q : Int)], .agg #[.int .u32 (a' : Int), .int .u16 (p' : Int), .int .u32 (b' : Int), .int .u16 (q' : Int)]] w fun e w' => e = .returned (.int .i64 (-1)) ∧ Below w.heap.size w w'))
    (H5 : Hid (∀ w, Calls Tryd.prog 23 #[.agg #[.int .u32 (a' : Int), .int .u16 (p' : Int), .int .u32 (b' : Int), .int .u16 (q' : Int)], .agg #[.int .u32 (a : Int), .int .u16 (p : Int), .int .u32 (b : Int), .int .u16 (q : Int)]] w fun e w' => e = .returned (.int .i64 (1)) ∧ Below w.heap.size w w'))
    (H6 : Hid (∀ w, Calls Tryd.prog 23 #[.agg #[.int .u32 (a' : Int), .int .u16 (p' : Int), .int .u32 (b' : Int), .int .u16 (q' : Int)], .agg #[.int .u32 (a'' : Int), .int .u16 (p'' : Int), .int .u32 (b'' : Int), .int .u16 (q'' : Int)]] w fun e w' => e = .returned (.int .i64 cbc) ∧ Below w.heap.size w w'))
    (H7 : Hid (∀ w, Calls Tryd.prog 23 #[.agg #[.int .u32 (a : Int), .int .u16 (p : Int), .int .u32 (b : Int), .int .u16 (q : Int)], .agg #[.int .u32 (a'' : Int), .int .u16 (p'' : Int), .int .u32 (b'' : Int), .int .u16 (q'' : Int)]] w fun e w' => e = .returned (.int .i64 cac) ∧ Below w.heap.size w w'))
    : Calls Tryd.prog 7 #[.agg #[.int .u32 (a : Int), .int .u16 (p : Int), .int .u32 (b : Int), .int .u16 (q : Int)], .agg #[.int .u32 (a' : Int), .int .u16 (p' : Int), .int .u32 (b' : Int), .int .u16 (q' : Int)], .agg #[.int .u32 (a'' : Int), .int .u16 (p'' : Int), .int .u32 (b'' : Int), .int .u16 (q'' : Int)]] w fun e w' => e = .returned (.bool true) ∧ Below w.heap.size w w' := by
  have HT := hide (T3.start w E a p b q a' p' b' q' a'' p'' b'' q'')
  have n1 := fun w => neq_pair a p b q a p b q w
  rw [hself] at n1
  have n1' : ∀ w, (binOp .neq 36 (.agg #[.int .u32 (a : Int), .int .u16 (p : Int), .int .u32 (b : Int), .int .u16 (q : Int)]) (.agg #[.int .u32 (a : Int), .int .u16 (p : Int), .int .u32 (b : Int), .int .u16 (q : Int)])).run Tryd.prog w = .ok (.bool false) w := n1
  have n2 := fun w => eql_pair b q a p a p b q w
  rw [ht] at n2
  have n3 := fun w => eql_addr a p b q w
  rw [hf] at n3
  have n4 := fun w => eql_pair a p b q a' p' b' q' w
  rw [hab] at n4
  have hee : (e1 == e1) = true := by cases e1 <;> rfl
  have hne : (e1 != e1) = false := by cases e1 <;> rfl
  clear n1 hself ht hf hab
  go_enter Tryd.func7, Tryd.ntmps7
  go_wp2_with fail
  generalize ((w.alloc (.cells #[.int .u32 (a : Int), .int .u16 (p : Int), .int .u32 (b : Int), .int .u16 (q : Int)] 36)).alloc (.cells #[.int .u32 (a' : Int), .int .u16 (p' : Int), .int .u32 (b' : Int), .int .u16 (q' : Int)] 36)).alloc (.cells #[.int .u32 (a'' : Int), .int .u16 (p'' : Int), .int .u32 (b'' : Int), .int .u16 (q'' : Int)] 36) = w1 at *
  have T := unhide HT
  clear HT E
  obtain ⟨_, ⟨_, c10, c11, c12, c13⟩, ⟨_, d10, d11, d12, d13⟩, ⟨_, f10, f11, f12, f13⟩, _⟩ := id T
  have rc0 := cell_regrown c10
  have rc1 := cell_regrown c11
  have rc2 := cell_regrown c12
  have rc3 := cell_regrown c13
  have rd0 := cell_regrown d10
  have rd1 := cell_regrown d11
  have rd2 := cell_regrown d12
  have rd3 := cell_regrown d13
  have rf0 := cell_regrown f10
  have rf1 := cell_regrown f11
  have rf2 := cell_regrown f12
  have rf3 := cell_regrown f13
  have q0 := rgB (w := w1) (fun w => turn_any a p b q w)
  have q1 := rgB (w := w1) (fun w => turn_any b q a p w)
  have q2 := rgB (w := w1) (fun w => turn_any a p b q w)
  have q3 := rgB (w := w1) (unhide H1)
  have q4 := rgB (w := w1) (unhide H2)
  clear c10 c11 c12 c13 d10 d11 d12 d13 f10 f11 f12 f13
  try simp only [List.append]
  refine wp_region_quiet_below (by kernel_rfl) (by kernel_rfl) ?_
  repeat (quiet_step (fail))
  quiet_step (exact q0 _ _)
  repeat (quiet_step (fail))
  quiet_step (exact q1 _ _)
  repeat (quiet_step (fail))
  quiet_step (exact q2 _ _)
  repeat (quiet_step (fail))
  quiet_step (exact q3 _ _)
  repeat (quiet_step (fail))
  quiet_step (exact q4 _ _)
  repeat (quiet_step (fail))
  refine wpQuiet_nil ?_
  intro _ hw'
  obtain ⟨⟨dq, osq⟩, hw''⟩ := hw'
  subst hw''
  have T2 := T.on (below_regrown w1 dq osq)
  clear T rc0 rc1 rc2 rc3 rd0 rd1 rd2 rd3 rf0 rf1 rf2 rf3 q0 q1 q2 q3 q4
  have KK := hide T2
  clear T2
  generalize Sort.grow (redrawn w1 dq) osq = w2 at *
  have T2 := unhide KK
  clear KK
  obtain ⟨_, ⟨_, c20, c21, c22, c23⟩, ⟨_, d20, d21, d22, d23⟩, ⟨_, f20, f21, f22, f23⟩, _⟩ := id T2
  go_wp2_with fail
  refine (unhide H1 _).mono ?_
  rintro e w3 ⟨rfl, b3⟩
  have T4 := T2.on b3
  clear b3 T2 c20 c21 c22 c23 d20 d21 d22 d23 f20 f21 f22 f23
  obtain ⟨_, ⟨_, c30, c31, c32, c33⟩, ⟨_, d30, d31, d32, d33⟩, ⟨_, f30, f31, f32, f33⟩, _⟩ := id T4
  go_wp2_with fail
  have m1 : ¬ 9223372036854775807 < 4 + 4 := by omega
  have hcat := unhide HZ
  obtain ⟨P1, g1⟩ : ∃ P, B4 ++ A4 = P := ⟨_, rfl⟩
  rw [g1] at hcat
  have t1 : P1.size = 8 := by rw [← g1, ByteArray.size_append]; omega
  obtain ⟨P3, g3⟩ : ∃ P, P1 ++ Q2 = P := ⟨_, rfl⟩
  rw [g3] at hcat
  have t3 : P3.size = 10 := by rw [← g3, ByteArray.size_append]; omega
  have hZZ : (Z.toList == Z.toList) = true := by simp
  have rc0 := cell_regrown c30
  have rc1 := cell_regrown c31
  have rc2 := cell_regrown c32
  have rc3 := cell_regrown c33
  have rd0 := cell_regrown d30
  have rd1 := cell_regrown d31
  have rd2 := cell_regrown d32
  have rd3 := cell_regrown d33
  have rf0 := cell_regrown f30
  have rf1 := cell_regrown f31
  have rf2 := cell_regrown f32
  have rf3 := cell_regrown f33
  have q0 := rgB (w := w3) (fun w => turn_any a p b q w)
  have q1 := rgB (w := w3) (unhide H3)
  clear c30 c31 c32 c33 d30 d31 d32 d33 f30 f31 f32 f33
  try simp only [List.append]
  refine wp_region_quiet_below (by kernel_rfl) (by kernel_rfl) ?_
  repeat (quiet_step (fail))
  quiet_step (exact q0 _ _)
  repeat (quiet_step (fail))
  quiet_step (exact q1 _ _)
  repeat (quiet_step (fail))
  refine wpQuiet_nil ?_
  intro _ hw'
  obtain ⟨⟨dq, osq⟩, hw''⟩ := hw'
  subst hw''
  have T5 := T4.on (below_regrown w3 dq osq)
  clear T4 rc0 rc1 rc2 rc3 rd0 rd1 rd2 rd3 rf0 rf1 rf2 rf3 q0 q1
  have KK := hide T5
  clear T5
  generalize Sort.grow (redrawn w3 dq) osq = w4 at *
  have T5 := unhide KK
  clear KK
  obtain ⟨_, ⟨_, c40, c41, c42, c43⟩, ⟨_, d40, d41, d42, d43⟩, ⟨_, f40, f41, f42, f43⟩, _⟩ := id T5
  go_wp2_with fail
  refine (unhide H4 _).mono ?_
  rintro e w5 ⟨rfl, b5⟩
  have T6 := T5.on b5
  clear b5 T5 c40 c41 c42 c43 d40 d41 d42 d43 f40 f41 f42 f43
  obtain ⟨_, ⟨_, c50, c51, c52, c53⟩, ⟨_, d50, d51, d52, d53⟩, ⟨_, f50, f51, f52, f53⟩, _⟩ := id T6
  go_wp2_with fail
  refine (unhide H5 _).mono ?_
  rintro e w6 ⟨rfl, b6⟩
  have T7 := T6.on b6
  clear b6 T6 c50 c51 c52 c53 d50 d51 d52 d53 f50 f51 f52 f53
  obtain ⟨_, ⟨_, c60, c61, c62, c63⟩, ⟨_, d60, d61, d62, d63⟩, ⟨_, f60, f61, f62, f63⟩, _⟩ := id T7
  go_wp2_with fail
  refine (unhide H6 _).mono ?_
  rintro e w7 ⟨rfl, b7⟩
  have T8 := T7.on b7
  clear b7 T7 c60 c61 c62 c63 d60 d61 d62 d63 f60 f61 f62 f63
  obtain ⟨_, ⟨_, c70, c71, c72, c73⟩, ⟨_, d70, d71, d72, d73⟩, ⟨_, f70, f71, f72, f73⟩, _⟩ := id T8
  go_wp2_with fail
  refine (unhide H7 _).mono ?_
  rintro e w8 ⟨rfl, b8⟩
  have T9 := T8.on b8
  clear b8 T8 c70 c71 c72 c73 d70 d71 d72 d73 f70 f71 f72 f73
  obtain ⟨_, ⟨_, c80, c81, c82, c83⟩, ⟨_, d80, d81, d82, d83⟩, ⟨_, f80, f81, f82, f83⟩, _⟩ := id T9
  have H8 := hide alive_any
  go_wp2_with fail
  refine (unhide H8 _ T9.env).mono ?_
  rintro e w9 ⟨rfl, b9⟩
  go_wp2_with fail
  go_ret
  exact ⟨rfl, tr2 T9.bel b9⟩

end Go.Proofs.YtnglkadfnacmcaaDoor
