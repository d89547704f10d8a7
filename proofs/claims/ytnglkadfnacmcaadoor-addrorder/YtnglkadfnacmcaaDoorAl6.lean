/- The contract of the laws' alive(), over the loaded program: true; no memory that was there has turned. Condition: Env. -/
import Derived.Test.YtnglkadfnacmcaaDoorAd3
import Derived.Test.YtnglkadfnacmcaaDoorAd6
import Derived.Test.YtnglkadfnacmcaaDoorRd1
import Derived.BigQuiet
namespace Go.Proofs.YtnglkadfnacmcaaDoor
open Go.RowKit

theorem al_p1 (w : World) (E : Env w) : Calls Tryd.prog 9 #[.string ⟨#[49, 48, 46, 49, 46, 50, 46, 51]⟩] w fun e w' => e = .returned (.tuple #[.int .u32 167838211, .int .i64 0]) ∧ Below w.heap.size w w' :=
  parse_ok ⟨#[49, 48, 46, 49, 46, 50, 46, 51]⟩ (by decide) 167838211 (by decide +kernel) w E
theorem al_p2 (w : World) (E : Env w) : Calls Tryd.prog 9 #[.string ⟨#[49, 48, 46, 49, 46, 48, 46, 48]⟩] w fun e w' => e = .returned (.tuple #[.int .u32 167837696, .int .i64 0]) ∧ Below w.heap.size w w' :=
  parse_ok ⟨#[49, 48, 46, 49, 46, 48, 46, 48]⟩ (by decide) 167837696 (by decide +kernel) w E
theorem al_p3 (w : World) (E : Env w) : Calls Tryd.prog 9 #[.string ⟨#[49, 48, 46, 48, 46, 48, 46, 48, 49]⟩] w fun e w' => e = .returned (.tuple #[.int .u32 0, .int .i64 8]) ∧ Below w.heap.size w w' :=
  parse_no ⟨#[49, 48, 46, 48, 46, 48, 46, 48, 49]⟩ (by decide) (by decide +kernel) w E
theorem al_p4 (w : World) (E : Env w) : Calls Tryd.prog 9 #[.string ⟨#[49, 46, 50, 46, 51]⟩] w fun e w' => e = .returned (.tuple #[.int .u32 0, .int .i64 8]) ∧ Below w.heap.size w w' :=
  parse_no ⟨#[49, 46, 50, 46, 51]⟩ (by decide) (by decide +kernel) w E
theorem al_p5 (w : World) (E : Env w) : Calls Tryd.prog 9 #[.string ⟨#[50, 53, 54, 46, 48, 46, 48, 46, 49]⟩] w fun e w' => e = .returned (.tuple #[.int .u32 0, .int .i64 8]) ∧ Below w.heap.size w w' :=
  parse_no ⟨#[50, 53, 54, 46, 48, 46, 48, 46, 49]⟩ (by decide) (by decide +kernel) w E
theorem al_t1 (w : World) (E : Env w) : Calls Tryd.prog 11 #[.int .u32 167772161] w fun e w' => e = .returned (.string ⟨#[49, 48, 46, 48, 46, 48, 46, 49]⟩) ∧ Below w.heap.size w w' := by
  have h : (⟨(txtI 167772161).toArray⟩ : ByteArray) = ⟨#[49, 48, 46, 48, 46, 48, 46, 49]⟩ := by decide +kernel
  have := text_any 167772161 w (by decide) E
  rw [h] at this
  exact this
theorem al_t2 (w : World) (E : Env w) : Calls Tryd.prog 11 #[.int .u32 4294963200] w fun e w' => e = .returned (.string ⟨#[50, 53, 53, 46, 50, 53, 53, 46, 50, 52, 48, 46, 48]⟩) ∧ Below w.heap.size w w' := by
  have h : (⟨(txtI 4294963200).toArray⟩ : ByteArray) = ⟨#[50, 53, 53, 46, 50, 53, 53, 46, 50, 52, 48, 46, 48]⟩ := by decide +kernel
  have := text_any 4294963200 w (by decide) E
  rw [h] at this
  exact this
theorem al_i1 (w : World) : Calls Tryd.prog 17 #[.int .u32 167838211, .int .u32 167837696, .int .i64 16] w fun e w' => e = .returned (.bool true) ∧ w' = w := by
  have h : inB 167838211 167837696 (clip 16) = true := by decide +kernel
  have := in_any 167838211 167837696 16 w (by decide) (by decide)
  rw [h] at this
  exact this
theorem al_i2 (w : World) : Calls Tryd.prog 17 #[.int .u32 167838211, .int .u32 167837696, .int .i64 24] w fun e w' => e = .returned (.bool false) ∧ w' = w := by
  have h : inB 167838211 167837696 (clip 24) = false := by decide +kernel
  have := in_any 167838211 167837696 24 w (by decide) (by decide)
  rw [h] at this
  exact this
theorem al_m (w : World) : Calls Tryd.prog 15 #[.int .i64 20] w fun e w' => e = .returned (.int .u32 4294963200) ∧ w' = w := by
  have h : mk (clip 20) = 4294963200 := by decide +kernel
  have := mask_any 20 w
  rw [h] at this
  exact this
theorem al_k1 (w : World) : Calls Tryd.prog 13 #[.int .u32 167838211] w fun e w' => e = .returned (.int .u8 0) ∧ Below w.heap.size w w' := by
  have h : kindN 167838211 = 0 := by decide +kernel
  have := kind_is 167838211 w (by decide)
  rw [h] at this
  exact this
theorem al_k2 (w : World) : Calls Tryd.prog 13 #[.int .u32 0] w fun e w' => e = .returned (.int .u8 1) ∧ Below w.heap.size w w' := by
  have h : kindN 0 = 1 := by decide +kernel
  have := kind_is 0 w (by decide)
  rw [h] at this
  exact this
theorem ptx_size (a p b q : Nat) : (ptx a p b q).size = 12 := rfl
theorem cmp_self : ∀ l : List UInt8, Lib.compareBytes l l = 0
  | [] => rfl
  | a :: l => by
    have h : ¬ a < a := UInt8.lt_irrefl a
    unfold Lib.compareBytes
    rw [if_neg h, if_neg h]
    exact cmp_self l

theorem rgE {w : World} (E : Env w) {f : FuncId} {args : Array Value} {v : Value} (H : ∀ W, Env W → Calls Tryd.prog f args W fun e w' => e = .returned v ∧ Below W.heap.size W w') (d : Nat) (os : Array Obj) :
    Calls Tryd.prog f args (Sort.grow (redrawn w d) os) fun e w'' => e = .returned v ∧ ∃ p : Regrown, w'' = Sort.grow (redrawn w p.d) p.os := Calls.regrown_of (H _ (E.on (below_regrown w d os)))
theorem rgB {w : World} {f : FuncId} {args : Array Value} {v : Value} (H : ∀ W, Calls Tryd.prog f args W fun e w' => e = .returned v ∧ Below W.heap.size W w') (d : Nat) (os : Array Obj) :
    Calls Tryd.prog f args (Sort.grow (redrawn w d) os) fun e w'' => e = .returned v ∧ ∃ p : Regrown, w'' = Sort.grow (redrawn w p.d) p.os := Calls.regrown_of (H _)
theorem same_below {f : FuncId} {args : Array Value} {v : Value} (H : ∀ W, Calls Tryd.prog f args W fun e w' => e = .returned v ∧ w' = W) (W : World) : Calls Tryd.prog f args W fun e w' => e = .returned v ∧ Below W.heap.size W w' :=
  (H W).mono fun _ _ h => ⟨h.1, h.2 ▸ Below.refl _ _⟩

set_option maxRecDepth 20000 in
set_option maxHeartbeats 2000000 in
theorem alive_any (w : World) (E : Env w) : Calls Tryd.prog 8 #[] w fun e w' => e = .returned (.bool true) ∧ Below w.heap.size w w' := by
  have H1 := hide al_p1
  have H2 := hide al_p2
  have H3 := hide al_p3
  have H4 := hide al_p4
  have H5 := hide al_p5
  go_enter Tryd.func8, Tryd.ntmps8
  go_wp2_with fail
  refine (unhide H1 _ E).mono ?_
  rintro e w1 ⟨rfl, b1⟩
  have E1 := E.on b1
  go_wp2_with fail
  refine (unhide H2 _ E1).mono ?_
  rintro e w2 ⟨rfl, b2⟩
  have E2 := E1.on b2
  go_wp2_with fail
  refine (unhide H3 _ E2).mono ?_
  rintro e w3 ⟨rfl, b3⟩
  have E3 := E2.on b3
  go_wp2_with fail
  refine (unhide H4 _ E3).mono ?_
  rintro e w4 ⟨rfl, b4⟩
  have E4 := E3.on b4
  go_wp2_with fail
  refine (unhide H5 _ E4).mono ?_
  rintro e w5 ⟨rfl, b5⟩
  have E5 := E4.on b5
  have bel := tr2 (tr2 (tr2 (tr2 b1 b2) b3) b4) b5
  clear b1 b2 b3 b4 b5 E1 E2 E3 E4 H1 H2 H3 H4 H5 E
  go_wp2_with fail
  have HS := hide (PB.new w5 167838211 1 167837696 2 36)
  have HB := hide (tr2 bel (below_one w5 (.cells #[.int .u32 167838211, .int .u16 1, .int .u32 167837696, .int .u16 2] 36)))
  have HEn := hide (E5.alloc (.cells #[.int .u32 167838211, .int .u16 1, .int .u32 167837696, .int .u16 2] 36))
  clear E5 bel
  generalize w5.alloc (.cells #[.int .u32 167838211, .int .u16 1, .int .u32 167837696, .int .u16 2] 36) = w6 at *
  obtain ⟨_, c0, c1, c2, c3⟩ := unhide HS
  have k0 := cell_regrown c0
  have k1 := cell_regrown c1
  have k2 := cell_regrown c2
  have k3 := cell_regrown c3
  clear c0 c1 c2 c3 HS
  have E6 := unhide HEn
  have q1 := rgE E6 al_t1
  have q2 := rgB (w := w6) (same_below al_i1)
  have q3 := rgB (w := w6) (same_below al_i2)
  have q4 := rgB (w := w6) (same_below al_m)
  have q5 := rgE E6 al_t2
  have q6 := rgB (w := w6) al_k1
  have q7 := rgB (w := w6) al_k2
  have q8 := rgB (w := w6) (fun w => turn_any 167838211 1 167837696 2 w)
  have q9 := rgB (w := w6) (fun w => bytes_any 167838211 1 167837696 2 w (by decide) (by decide) (by decide) (by decide))
  have q10 := rgB (w := w6) (fun w => compare_any 167838211 1 167837696 2 167838211 1 167837696 2 w (by decide) (by decide) (by decide) (by decide) (by decide) (by decide) (by decide) (by decide))
  rw [cmp_self] at q10
  have hz := ptx_size 167838211 1 167837696 2
  generalize ptx 167838211 1 167837696 2 = PT at *
  have fld : ∀ w, (Instr.field 36 (.agg #[.int .u32 167837696, .int .u16 2, .int .u32 167838211, .int .u16 1]) 1).run Tryd.prog w = .ok (.agg #[.int .u32 167838211, .int .u16 1]) w := fun _ => by kernel_rfl
  have eqf : ∀ w, (binOp .eql 34 (.agg #[.int .u32 167838211, .int .u16 1]) (.agg #[.int .u32 167838211, .int .u16 1])).run Tryd.prog w = .ok (.bool true) w := fun _ => by kernel_rfl
  simp only [List.append]
  refine wp_region_quiet_below (by kernel_rfl) (by kernel_rfl) ?_
  quiet_step (exact q1 _ _)
  repeat (quiet_step (fail))
  quiet_step (exact q2 _ _)
  repeat (quiet_step (fail))
  quiet_step (exact q3 _ _)
  repeat (quiet_step (fail))
  quiet_step (exact q4 _ _)
  repeat (quiet_step (fail))
  quiet_step (exact q5 _ _)
  repeat (quiet_step (fail))
  quiet_step (exact q6 _ _)
  repeat (quiet_step (fail))
  quiet_step (exact q7 _ _)
  repeat (quiet_step (fail))
  quiet_step (exact q8 _ _)
  repeat (quiet_step (fail))
  quiet_step (exact q9 _ _)
  repeat (quiet_step (fail))
  quiet_step (exact q10 _ _)
  repeat (quiet_step (fail))
  refine wpQuiet_nil ?_
  intro _ hw'
  obtain ⟨⟨dq, osq⟩, hw''⟩ := hw'
  subst hw''
  go_wp2
  go_ret
  exact ⟨rfl, tr2 (unhide HB) (below_regrown w6 dq osq)⟩

end Go.Proofs.YtnglkadfnacmcaaDoor
