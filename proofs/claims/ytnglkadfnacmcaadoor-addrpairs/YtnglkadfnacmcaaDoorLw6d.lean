/- The walk of the law AddrPairs, over the loaded program: true; no memory that was there has turned. Condition: Env. -/
import Derived.Test.YtnglkadfnacmcaaDoorAl6
import Derived.Test.YtnglkadfnacmcaaDoorEq6
import Derived.Test.YtnglkadfnacmcaaDoorInp6
namespace Go.Proofs.YtnglkadfnacmcaaDoor
open Go.RowKit

set_option maxRecDepth 20000 in
set_option maxHeartbeats 2000000 in
theorem pairs_walk (i n : Nat) (bits : Int) (a p b q a' p' b' q' mk1 : Nat) (r : Bool) (cm : Int) (PT : ByteArray) (w : World) (E : Env w)
    (H1 : Hid (∀ w, Calls Tryd.prog 15 #[.int .i64 bits] w fun e w' => e = .returned (.int .u32 (mk1 : Int)) ∧ w' = w))
    (H2 : Hid (∀ w, Calls Tryd.prog 16 #[.int .i64 bits] w fun e w' => e = .returned (.int .u32 (mk1 : Int)) ∧ w' = w))
    (H3 : Hid (∀ w, Calls Tryd.prog 17 #[.int .u32 (i : Int), .int .u32 (n : Int), .int .i64 bits] w fun e w' => e = .returned (.bool r) ∧ w' = w))
    (H4 : Hid (∀ w, Calls Tryd.prog 18 #[.int .u32 (i : Int), .int .u32 (n : Int), .int .i64 bits] w fun e w' => e = .returned (.bool r) ∧ w' = w))
    (H7 : Hid (∀ w, Calls Tryd.prog 21 #[.agg #[.int .u32 (a : Int), .int .u16 (p : Int), .int .u32 (b : Int), .int .u16 (q : Int)]] w fun e w' => e = .returned (.string PT) ∧ Below w.heap.size w w'))
    (H8 : Hid (∀ w, Calls Tryd.prog 22 #[.agg #[.int .u32 (a : Int), .int .u16 (p : Int), .int .u32 (b : Int), .int .u16 (q : Int)]] w fun e w' => e = .returned (.string PT) ∧ Below w.heap.size w w'))
    (H9 : Hid (∀ w, Calls Tryd.prog 23 #[.agg #[.int .u32 (a : Int), .int .u16 (p : Int), .int .u32 (b : Int), .int .u16 (q : Int)], .agg #[.int .u32 (a' : Int), .int .u16 (p' : Int), .int .u32 (b' : Int), .int .u16 (q' : Int)]] w fun e w' => e = .returned (.int .i64 cm) ∧ Below w.heap.size w w'))
    (H10 : Hid (∀ w, Calls Tryd.prog 24 #[.agg #[.int .u32 (a : Int), .int .u16 (p : Int), .int .u32 (b : Int), .int .u16 (q : Int)], .agg #[.int .u32 (a' : Int), .int .u16 (p' : Int), .int .u32 (b' : Int), .int .u16 (q' : Int)]] w fun e w' => e = .returned (.int .i64 cm) ∧ Below w.heap.size w w')) :
    Calls Tryd.prog 4 #[.int .u32 (i : Int), .int .u32 (n : Int), .int .i64 bits, .agg #[.int .u32 (a : Int), .int .u16 (p : Int), .int .u32 (b : Int), .int .u16 (q : Int)], .agg #[.int .u32 (a' : Int), .int .u16 (p' : Int), .int .u32 (b' : Int), .int .u16 (q' : Int)]] w fun e w' => e = .returned (.bool true) ∧ Below w.heap.size w w' := by
  have HS := hide (PB.new w a p b q 36)
  have HB := hide (below_one w (.cells #[.int .u32 (a : Int), .int .u16 (p : Int), .int .u32 (b : Int), .int .u16 (q : Int)] 36))
  have hq : (binOp .eql 36 (.agg #[.int .u32 (b : Int), .int .u16 (q : Int), .int .u32 (a : Int), .int .u16 (p : Int)]) (.agg #[.int .u32 (b : Int), .int .u16 (q : Int), .int .u32 (a : Int), .int .u16 (p : Int)])).run Tryd.prog = fun w => .ok (.bool true) w := by
    funext w
    rw [eql_pair]
    simp [eqP]
  have hr : (r == r) = true := by cases r <;> rfl
  have ht : (PT.toList == PT.toList) = true := by simp
  go_enter Tryd.func4, Tryd.ntmps4
  go_wp2_with fail
  have HS2 := hide (PB.two' w (.cells #[.int .u32 (a : Int), .int .u16 (p : Int), .int .u32 (b : Int), .int .u16 (q : Int)] 36) a' p' b' q' 36)
  have HS1 := hide ((unhide HS).on (below_one _ (.cells #[.int .u32 (a' : Int), .int .u16 (p' : Int), .int .u32 (b' : Int), .int .u16 (q' : Int)] 36)))
  have HB2 := hide (tr2 (unhide HB) (below_one _ (.cells #[.int .u32 (a' : Int), .int .u16 (p' : Int), .int .u32 (b' : Int), .int .u16 (q' : Int)] 36)))
  clear HS HB
  generalize (w.alloc (.cells #[.int .u32 (a : Int), .int .u16 (p : Int), .int .u32 (b : Int), .int .u16 (q : Int)] 36)).alloc (.cells #[.int .u32 (a' : Int), .int .u16 (p' : Int), .int .u32 (b' : Int), .int .u16 (q' : Int)] 36) = w1 at *
  have E1 := E.on (unhide HB2)
  obtain ⟨_, c0, c1, c2, c3⟩ := unhide HS1
  obtain ⟨_, d0, d1, d2, d3⟩ := unhide HS2
  have k0 := cell_regrown c0
  have k1 := cell_regrown c1
  have k2 := cell_regrown c2
  have k3 := cell_regrown c3
  have l0 := cell_regrown d0
  have l1 := cell_regrown d1
  have l2 := cell_regrown d2
  have l3 := cell_regrown d3
  have q1 := rgB (w := w1) (same_below (unhide H1))
  have q2 := rgB (w := w1) (same_below (unhide H2))
  have q3 := rgB (w := w1) (same_below (unhide H3))
  have q4 := rgB (w := w1) (same_below (unhide H4))
  have q5 := rgB (w := w1) (fun w => turn_any a p b q w)
  have q6 := rgB (w := w1) (fun w => rturn_any a p b q w)
  have q7 := rgB (w := w1) (unhide H7)
  have q8 := rgB (w := w1) (unhide H8)
  have q9 := rgB (w := w1) (unhide H9)
  have q10 := rgB (w := w1) (unhide H10)
  have q11 := rgE E1 alive_any
  clear H1 H2 H3 H4 H7 H8 H9 H10 c0 c1 c2 c3 d0 d1 d2 d3 HS1 HS2
  try simp only [List.append]
  refine wp_region_quiet_below (by kernel_rfl) (by kernel_rfl) ?_
  repeat (quiet_step (fail))
  quiet_step (exact q1 _ _)
  repeat (quiet_step (fail))
  quiet_step (exact q2 _ _)
  repeat (quiet_step (fail))
  quiet_step (exact q3 _ _)
  repeat (quiet_step (fail))
  quiet_step (exact q4 _ _)
  repeat (quiet_step (fail))
  quiet_step (exact q5 _ _)
  repeat (quiet_step (fail))
  quiet_step (exact q6 _ _)
  repeat (quiet_step (fail))
  quiet_step (exact q7 _ _)
  repeat (quiet_step (fail))
  quiet_step (exact q8 _ _)
  repeat (quiet_step (fail))
  quiet_step (exact q9 _ _)
  repeat (quiet_step (fail))
  quiet_step (exact q10 _ _)
  repeat (quiet_step (fail))
  quiet_step (exact q11 _ _)
  repeat (quiet_step (fail))
  refine wpQuiet_nil ?_
  intro _ hw'
  obtain ⟨⟨dq, osq⟩, hw''⟩ := hw'
  subst hw''
  go_wp2
  go_ret
  exact ⟨rfl, tr2 (unhide HB2) (below_regrown w1 dq osq)⟩

theorem addrPairs_walk (x y n : Int) (v : Value) (a p b q : Nat) (v' : Value) (a' p' b' q' : Nat) (w : World) (hx : (Lit.int .u32 x).wf = true) (hy : (Lit.int .u32 y).wf = true) (_ : (Lit.int .i64 n).wf = true) (hv : IsPair v a p b q) (hv' : IsPair v' a' p' b' q') (E : Env w) :
    Calls Tryd.prog 4 #[.int .u32 x, .int .u32 y, .int .i64 n, v, v'] w fun e w' => e = .returned (.bool true) ∧ Below w.heap.size w w' := by
  obtain ⟨i, rfl, hi⟩ := nat32 hx
  obtain ⟨j, rfl, hj⟩ := nat32 hy
  obtain ⟨rfl, ha, hp, hb, hq⟩ := hv
  obtain ⟨rfl, ha', hp', hb', hq'⟩ := hv'
  exact pairs_walk i j n a p b q a' p' b' q' _ _ _ _ w E (fun w => mask_any n w) (fun w => rmask_any n w) (fun w => in_any i j n w hi hj) (fun w => rin_any i j n w hi hj)
    (fun w => bytes_any a p b q w ha hp hb hq) (fun w => rbytes_any a p b q w ha hp hb hq) (fun w => compare_any a p b q a' p' b' q' w ha hp hb hq ha' hp' hb' hq') (fun w => rcompare_any a p b q a' p' b' q' w ha hp hb hq ha' hp' hb' hq')

end Go.Proofs.YtnglkadfnacmcaaDoor
