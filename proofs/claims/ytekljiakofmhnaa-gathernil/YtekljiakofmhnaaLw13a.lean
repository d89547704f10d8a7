/- The walk of the law GatherNil, over the loaded program. -/
import Derived.Test.YtekljiakofmhnaaAl13
import Derived.Test.YtekljiakofmhnaaGu7
namespace Go.Proofs.Ytekljiakofmhnaa
open Go.RowKit Go.Shelf

set_option maxRecDepth 100000 in
set_option maxHeartbeats 4000000 in
theorem gatherNil_walk (v : Value) (h : Rh) (d : ByteArray) (now : Int) (w : World) (hv : IsHead v h) (hd : d.size ≤ maxLen) (_ : (Lit.int .i64 now).wf = true) :
    Calls Try.prog 4 #[v, .string d, .int .i64 now] w fun e w' => e = .returned (.bool true) ∧ Below w.heap.size w w' := by
  have HL := hide (fun w => long_any h d w hv.op hd)
  obtain rfl := hv.eq
  have HA := hide alive_any
  have HP := hide (fun w => put_nil w h d now)
  have HT := hide (fun w => tick_nil w now)
  have HQ := hide (show ∀ w, (binOp .eql 34 hd0V hd0V).run Try.prog w = .ok (.bool true) w from fun w => by
    have := eql_hd rh0 rh0 w
    rwa [decide_eq_true rfl] at this)
  have HB := hide (HC.box w h 34)
  have B0 := hide (below_one w (.cells (hdL h).toArray 34))
  clear hd hv
  go_enter Try.func4, Try.ntmps4
  go_upto_region 1 with fail
  obtain ⟨W1, hW1⟩ : ∃ W1, W1 = w.alloc (.cells (hdL h).toArray 34) := ⟨_, rfl⟩
  rw [← hW1] at HB B0
  simp only [hdL] at hW1
  rw [← hW1]
  clear hW1
  obtain ⟨c0, c1, c2, c3, c4, c5, c6, c7, c8, c9⟩ := unhide HB
  go_wp2_with fail
  refine (unhide HL _).mono ?_
  rintro e w2 ⟨rfl, b2⟩
  have HB2 := hide ((unhide HB).on b2)
  have B2 := hide (tr2 (unhide B0) b2)
  clear HL HB B0 b2 c0 c1 c2 c3 c4 c5 c6 c7 c8 c9
  by_cases hl : longB h d
  · rw [decide_eq_true hl]
    go_wp2_with fail
    refine (unhide HA _).mono ?_
    rintro e w3 ⟨rfl, b3⟩
    go_wp2_with fail
    go_ret
    exact ⟨rfl, tr2 (unhide B2) b3⟩
  · rw [decide_eq_false hl]
    obtain ⟨c0, c1, c2, c3, c4, c5, c6, c7, c8, c9⟩ := unhide HB2
    go_wp2_with fail
    refine (unhide HP _).mono ?_
    rintro e w3 ⟨rfl, b3⟩
    have B3 := hide (tr2 (unhide B2) b3)
    clear c0 c1 c2 c3 c4 c5 c6 c7 c8 c9 b3 HB2 B2 HP
    go_wp2_with fail
    refine (next_nil _).mono ?_
    rintro e w4 ⟨rfl, rfl⟩
    have hq := unhide HQ
    have B4 := hide (tr2 (unhide B3) (below_one w3 (.cells hd0C 34)))
    clear HQ B3
    go_wp2_with fail
    refine (unhide HT _).mono ?_
    rintro e w5 ⟨rfl, b5⟩
    have B5 := hide (tr2 (unhide B4) b5)
    clear HT B4 b5
    go_wp2_with fail
    refine (held_nil _).mono ?_
    rintro e w6 ⟨rfl, rfl⟩
    go_wp2_with fail
    refine (len_nil _).mono ?_
    rintro e w6 ⟨rfl, rfl⟩
    go_wp2_with fail
    refine (unhide HA _).mono ?_
    rintro e w7 ⟨rfl, b7⟩
    go_wp2_with fail
    go_ret
    exact ⟨rfl, tr2 (unhide B5) b7⟩

end Go.Proofs.Ytekljiakofmhnaa
