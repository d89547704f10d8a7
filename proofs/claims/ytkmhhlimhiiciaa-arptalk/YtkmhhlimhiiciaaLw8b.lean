/- The walk of the law ArpAnswers, over the loaded program: true; no memory that was there has turned. No conditions. -/
import Derived.Test.YtkmhhlimhiiciaaLw8a
namespace Go.Proofs.Ytkmhhlimhiiciaa
open Go.RowKit

set_option maxRecDepth 20000 in
set_option maxHeartbeats 2000000 in
theorem answers_main (o f i t j a p q : Nat) (w : World) (O F I T J : Nat) (b : Bool)
    (H1 : Hid (∀ w, Calls Try.prog 12 #[ar o f i t j, .int .u64 (a : Int)] w fun x w' => x = .returned (.tuple #[ar O F I T J, .bool b]) ∧ Below w.heap.size w w'))
    (H2 : Hid (∀ w, Calls Try.prog 13 #[ar o f i t j, .int .u64 (a : Int)] w fun x w' => x = .returned (.tuple #[ar O F I T J, .bool b]) ∧ Below w.heap.size w w')) :
    Calls Try.prog 4 #[ar o f i t j, .int .u64 (a : Int), .int .u32 (p : Int), .int .u32 (q : Int)] w fun e w' => e = .returned (.bool true) ∧ Below w.heap.size w w' := by
  have H3 := hide (fun w => ask_any a p q w)
  have H4 := hide (fun w => rask_any a p q w)
  have H5 := hide (fun w => call_any a p w)
  have H6 := hide (fun w => rask_any a p p w)
  have H7 := hide alive_any
  have K0 := hide (box_ar w o f i t j)
  have eq := same_ar O F I T J
  have eq1 : ∀ w, (binOp .eql 27 (.agg #[.int .u16 1, .int .u64 (a : Int), .int .u32 (p : Int), .int .u64 0, .int .u32 (q : Int)]) (.agg #[.int .u16 1, .int .u64 (a : Int), .int .u32 (p : Int), .int .u64 0, .int .u32 (q : Int)])).run Try.prog w = .ok (.bool true) w := same_ar 1 a p 0 q
  have eq2 : ∀ w, (binOp .eql 27 (.agg #[.int .u16 1, .int .u64 (a : Int), .int .u32 (p : Int), .int .u64 0, .int .u32 (p : Int)]) (.agg #[.int .u16 1, .int .u64 (a : Int), .int .u32 (p : Int), .int .u64 0, .int .u32 (p : Int)])).run Try.prog w = .ok (.bool true) w := same_ar 1 a p 0 p
  have bb : (b == b) = true := by cases b <;> rfl
  go_enter Try.func4, Try.ntmps4
  go_wp2_with fail
  refine (unhide H1 _).mono ?_
  rintro e w1 ⟨rfl, b1⟩
  have K1 := hide (((unhide K0).on b1).on (below_one _ (arC O F I T J)))
  have L1 := hide (box_ar w1 O F I T J)
  clear K0 b1 H1
  obtain ⟨c0, c1, c2, c3, c4⟩ := (unhide K1).five0 rfl rfl rfl rfl rfl
  go_wp2_with fail
  refine (unhide H2 _).mono ?_
  rintro e w2 ⟨rfl, b2⟩
  have B2 := hide (((unhide K1).on b2).on (below_one _ (arC O F I T J))).bel
  have L2 := hide (((unhide L1).on b2).on (below_one _ (arC O F I T J)))
  clear K1 L1 b2 H2 c0 c1 c2 c3 c4
  obtain ⟨c0, c1, c2, c3, c4⟩ := (unhide L2).five0 rfl rfl rfl rfl rfl
  go_wp2_with fail
  refine (unhide H3 _).mono ?_
  rintro e w3 ⟨rfl, b3⟩
  clear c0 c1 c2 c3 c4 L2 H3
  have B3 := hide (tr2 (unhide B2) b3)
  clear B2 b3
  go_wp2_with fail
  refine (unhide H4 _).mono ?_
  rintro e w4 ⟨rfl, b4⟩
  have B4 := hide (tr2 (unhide B3) b4)
  clear B3 b4 H4
  go_wp2_with fail
  refine (unhide H5 _).mono ?_
  rintro e w5 ⟨rfl, b5⟩
  have B5 := hide (tr2 (unhide B4) b5)
  clear B4 b5 H5
  go_wp2_with fail
  refine (unhide H6 _).mono ?_
  rintro e w6 ⟨rfl, b6⟩
  have B6 := hide (tr2 (unhide B5) b6)
  clear B5 b6 H6
  go_wp2_with fail
  refine (unhide H7 _).mono ?_
  rintro e w7 ⟨rfl, b7⟩
  go_wp2_with fail
  go_ret
  exact ⟨rfl, tr2 (unhide B6) b7⟩

theorem arpAnswers_walk (v : Value) (o f i t j : Nat) (a p q : Int) (w : World) (hv : IsArp v o f i t j) (ha : (Lit.int .u64 a).wf = true) (hp : (Lit.int .u32 p).wf = true) (hq : (Lit.int .u32 q).wf = true) :
    Calls Try.prog 4 #[v, .int .u64 a, .int .u32 p, .int .u32 q] w fun e w' => e = .returned (.bool true) ∧ Below w.heap.size w w' := by
  obtain ⟨rfl, ho, hf, hi, ht, hj⟩ := hv
  obtain ⟨a, rfl, ha⟩ := nat64 ha
  obtain ⟨p, rfl, hp⟩ := nat32 hp
  obtain ⟨q, rfl, hq⟩ := nat32 hq
  obtain ⟨O, F, I, T, J, b, h⟩ := tel_ex o f i j a
  exact answers_main o f i t j a p q w O F I T J b (fun w => tell_any w h) (fun w => rtell_any w h)

end Go.Proofs.Ytkmhhlimhiiciaa
