/- The contracts of the document's table of routes (layer 11): May, ahead, Find, Same, over the loaded program. -/
import Derived.Test.YtmicgkoicmeflaaEq11
namespace Go.Proofs.Ytmicgkoicmeflaa
open Go.RowKit

set_option maxRecDepth 100000 in
set_option maxHeartbeats 1000000 in
theorem may_any (r : Rt) (w : World) (hr : Rin r) :
    Calls Try.prog 20 #[rtV r] w fun e w' => e = .returned (.bool (decide (mayR r))) ∧ Below w.heap.size w w' := by
  have HM := hide (fun w => rmask_any r.b w)
  have hb := mk_lt (clip r.b)
  have han : bits .and .u32 (r.n : Int) (mk (clip r.b) : Nat) = ((r.n &&& mk (clip r.b) : Nat) : Int) := u32_and_nat r.n _ hr.n hb
  have hle := hide (below_one w (.cells #[.int .u32 (r.n : Int), .int .i64 r.b, .int .u32 (r.v : Int), .int .i64 r.c, .int .u32 (r.s : Int)] 32))
  have HB := hide (fun k : World => fun n => below_drewN k n)
  have HR : Hid (∀ x : Bool, (x = true ↔ mayR r) → Ending.returned (.bool x) = .returned (.bool (decide (mayR r)))) := fun x h => ret_bool (by rw [Bool.eq_iff_iff, h, decide_eq_true_iff])
  have HN : Hid (¬ (0 ≤ r.b ∧ r.b ≤ 32 ∧ 0 ≤ r.c) → ¬ mayR r) := fun h k => h ⟨k.1.1, k.1.2, k.2.1⟩
  have HY : Hid (0 ≤ r.b → r.b ≤ 32 → 0 ≤ r.c → (mayR r ↔ r.n &&& mk (clip r.b) = r.n)) := fun h1 h2 h3 => ⟨fun h => h.2.2, fun h => ⟨⟨h1, h2⟩, h3, h⟩⟩
  generalize r.n &&& mk (clip r.b) = a at *
  generalize mk (clip r.b) = m at *
  by_cases h1 : 0 ≤ r.b
  · by_cases h2 : r.b ≤ 32
    · by_cases h3 : 0 ≤ r.c
      · have HY := hide (unhide HY h1 h2 h3)
        have d1 : decide ((0 : Int) ≤ r.b) = true := decide_eq_true h1
        have d2 : decide (r.b ≤ 32) = true := decide_eq_true h2
        have d3 : decide ((0 : Int) ≤ r.c) = true := decide_eq_true h3
        clear HN hb
        go_enter Try.func20, Try.ntmps20
        go_wp2_with fail
        go_quiet ((go_at_call 28; exact Calls.quiet_of_same (unhide HM _)))
        go_wp2
        go_ret
        refine ⟨unhide HR _ ?_, tr2 (unhide hle) (unhide HB _ _)⟩
        rw [unhide HY]
        simp
        omega
      · have HF := hide (unhide HN (fun k => h3 k.2.2))
        have d1 : decide ((0 : Int) ≤ r.b) = true := decide_eq_true h1
        have d2 : decide (r.b ≤ 32) = true := decide_eq_true h2
        have d3 : decide ((0 : Int) ≤ r.c) = false := decide_eq_false h3
        clear HN HY hb
        go_enter Try.func20, Try.ntmps20
        go_wp2_with fail
        go_quiet (fail)
        go_wp2
        go_ret
        exact ⟨unhide HR _ (by simp [unhide HF]), tr2 (unhide hle) (unhide HB _ _)⟩
    · have HF := hide (unhide HN (fun k => h2 k.2.1))
      have d1 : decide ((0 : Int) ≤ r.b) = true := decide_eq_true h1
      have d2 : decide (r.b ≤ 32) = false := decide_eq_false h2
      clear HN HY hb
      go_enter Try.func20, Try.ntmps20
      go_wp2_with fail
      go_quiet (fail)
      go_wp2
      go_ret
      exact ⟨unhide HR _ (by simp [unhide HF]), tr2 (unhide hle) (unhide HB _ _)⟩
  · have HF := hide (unhide HN (fun k => h1 k.1))
    have d1 : decide ((0 : Int) ≤ r.b) = false := decide_eq_false h1
    clear HN HY hb
    go_enter Try.func20, Try.ntmps20
    go_wp2_with fail
    go_quiet (fail)
    go_wp2
    go_ret
    exact ⟨unhide HR _ (by simp [unhide HF]), tr2 (unhide hle) (unhide HB _ _)⟩

set_option maxRecDepth 100000 in
set_option maxHeartbeats 1000000 in
theorem ahead_any (x y : Rt) (w : World) :
    Calls Try.prog 23 #[rtV x, rtV y] w fun e w' => e = .returned (.bool (decide (ahd x y))) ∧ Below w.heap.size w w' := by
  have B := hide (tr2 (below_one w (.cells (rtCs x) 32)) (below_one _ (.cells (rtCs y) 32)))
  obtain ⟨r, hr, hre⟩ := hidec (ahd x y)
  rw [← hre]
  clear hre
  by_cases h1 : y.b < x.b
  · have hF : Hid (r = true) := (unhide hr).2 (.inl h1)
    clear hr
    go_enter Try.func23, Try.ntmps23
    go_wp2_with fail
    go_ret
    exact ⟨ret_bool (unhide hF).symm, unhide B⟩
  · by_cases h2 : x.b = y.b
    · have e2 : (x.b == y.b) = true := beq_iff_eq.2 h2
      have hF : Hid (r = decide ((x.n : Int) < (y.n : Int))) := by
        refine Bool.eq_iff_iff.2 ?_
        rw [unhide hr, decide_eq_true_iff]
        unfold ahd
        omega
      clear hr h2
      go_enter Try.func23, Try.ntmps23
      go_wp2_with fail
      go_ret
      exact ⟨ret_bool (by rw [unhide hF]; simp), unhide B⟩
    · have e2 : (x.b == y.b) = false := beq_eq_false_iff_ne.2 h2
      have hF : Hid (r = false) := by
        refine Bool.eq_false_iff.2 (fun e => ?_)
        have := (unhide hr).1 e
        unfold ahd at this
        omega
      clear hr h2
      go_enter Try.func23, Try.ntmps23
      go_wp2_with fail
      go_ret
      exact ⟨ret_bool (unhide hF).symm, unhide B⟩
end Go.Proofs.Ytmicgkoicmeflaa
