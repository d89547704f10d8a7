/- The statement NearOnce of layer 9: the inputs that it does not play; all inputs. -/
import Derived.Test.YtjcigoojlmalnaaLw9c
namespace Go.Proofs.Ytjcigoojlmalnaa
open Go.RowKit Go.Maps

set_option maxRecDepth 100000 in
theorem once_noa (vs : Option Addr) (n vc : Nat) (a b c d e f : Int) (hm : mayB a b c d e f = false) (q0 : decide ((200 : Int) < (n : Int)) = true) (w : World) :
    Calls Try.prog 3 #[cfv a b c d e f, .slice vs n vc] w fun e w' => e = .returned (.bool true) ∧ Below w.heap.size w w' := by
  have HN := hide (fun w => new_no a b c d e f w hm)
  have HA := hide alive_any
  have HB := hide (below_one w (.cells #[.int .i64 a, .int .i64 b, .int .i64 c, .int .i64 d, .int .i64 e, .int .i64 f] 23))
  clear hm
  go_enter Try.func3, Try.ntmps3
  go_wp2_with fail
  refine (unhide HN _).mono ?_
  rintro en w2 ⟨rfl, hB⟩
  have HB2 := hide (tr2 (unhide HB) hB)
  clear hB HN HB
  go_wp2_with fail
  refine (unhide HA _).mono ?_
  rintro e w3 ⟨rfl, hB3⟩
  go_wp2
  go_ret
  exact ⟨rfl, tr2 (unhide HB2) hB3⟩

set_option maxRecDepth 100000 in
theorem once_nob (vs : Option Addr) (n vc : Nat) (a b c d e f : Int) (hm : mayB a b c d e f = false) (q0 : decide ((200 : Int) < (n : Int)) = false) (w : World) :
    Calls Try.prog 3 #[cfv a b c d e f, .slice vs n vc] w fun e w' => e = .returned (.bool true) ∧ Below w.heap.size w w' := by
  have HN := hide (fun w => new_no a b c d e f w hm)
  have HA := hide alive_any
  have HB := hide (below_one w (.cells #[.int .i64 a, .int .i64 b, .int .i64 c, .int .i64 d, .int .i64 e, .int .i64 f] 23))
  clear hm
  go_enter Try.func3, Try.ntmps3
  go_wp2_with fail
  refine (unhide HN _).mono ?_
  rintro en w2 ⟨rfl, hB⟩
  have HB2 := hide (tr2 (unhide HB) hB)
  clear hB HN HB
  go_wp2_with fail
  refine (unhide HA _).mono ?_
  rintro e w3 ⟨rfl, hB3⟩
  go_wp2
  go_ret
  exact ⟨rfl, tr2 (unhide HB2) hB3⟩

set_option maxRecDepth 100000 in
set_option maxHeartbeats 1000000 in
theorem once_skip0 (vs : Option Addr) (n vc : Nat) (c : Cf) (hok : c.Ok) (q0 : decide ((200 : Int) < (n : Int)) = true) (w : World) :
    Calls Try.prog 3 #[cfv c.most c.waits c.each c.known c.asks c.pause, .slice vs n vc] w fun e w' => e = .returned (.bool true) ∧ Below w.heap.size w w' := by
  have HN := hide (fun w => new_pn (No := fun _ => False) hok w (fun i hi => hi.elim))
  have HA := hide alive_any
  have HB := hide (below_one w (.cells #[.int .i64 (c.most : Int), .int .i64 (c.waits : Int), .int .i64 (c.each : Int), .int .i64 (c.known : Int), .int .i64 (c.asks : Int), .int .i64 (c.pause : Int)] 23))
  have HX := hide (heap_alloc_new w (.cells #[.int .i64 (c.most : Int), .int .i64 (c.waits : Int), .int .i64 (c.each : Int), .int .i64 (c.known : Int), .int .i64 (c.asks : Int), .int .i64 (c.pause : Int)] 23))
  clear hok
  go_enter Try.func3, Try.ntmps3
  go_wp2_with fail
  refine (unhide HN _).mono ?_
  rintro en w2 ⟨p, b, rfl, hP, hB⟩
  have HB2 := hide (tr2 (unhide HB) hB)
  obtain ⟨d1, d2, d3, d4, d5⟩ := conf_cells9 ((hB.block w.heap.size (by simp)).trans (unhide HX))
  clear hB HN HB hP HX
  go_wp2_with fail
  refine (unhide HA _).mono ?_
  rintro e w3 ⟨rfl, hB3⟩
  go_wp2
  go_ret
  exact ⟨rfl, tr2 (unhide HB2) hB3⟩

set_option maxRecDepth 100000 in
set_option maxHeartbeats 1000000 in
theorem once_skip1 (vs : Option Addr) (n vc : Nat) (c : Cf) (hok : c.Ok) (q0 : decide ((200 : Int) < (n : Int)) = false) (q1 : decide ((100 : Int) < (c.asks : Int)) = true) (w : World) :
    Calls Try.prog 3 #[cfv c.most c.waits c.each c.known c.asks c.pause, .slice vs n vc] w fun e w' => e = .returned (.bool true) ∧ Below w.heap.size w w' := by
  have HN := hide (fun w => new_pn (No := fun _ => False) hok w (fun i hi => hi.elim))
  have HA := hide alive_any
  have HB := hide (below_one w (.cells #[.int .i64 (c.most : Int), .int .i64 (c.waits : Int), .int .i64 (c.each : Int), .int .i64 (c.known : Int), .int .i64 (c.asks : Int), .int .i64 (c.pause : Int)] 23))
  have HX := hide (heap_alloc_new w (.cells #[.int .i64 (c.most : Int), .int .i64 (c.waits : Int), .int .i64 (c.each : Int), .int .i64 (c.known : Int), .int .i64 (c.asks : Int), .int .i64 (c.pause : Int)] 23))
  clear hok
  go_enter Try.func3, Try.ntmps3
  go_wp2_with fail
  refine (unhide HN _).mono ?_
  rintro en w2 ⟨p, b, rfl, hP, hB⟩
  have HB2 := hide (tr2 (unhide HB) hB)
  obtain ⟨d1, d2, d3, d4, d5⟩ := conf_cells9 ((hB.block w.heap.size (by simp)).trans (unhide HX))
  clear hB HN HB hP HX
  go_wp2_with fail
  refine (unhide HA _).mono ?_
  rintro e w3 ⟨rfl, hB3⟩
  go_wp2
  go_ret
  exact ⟨rfl, tr2 (unhide HB2) hB3⟩

set_option maxRecDepth 100000 in
set_option maxHeartbeats 1000000 in
theorem once_skip2 (vs : Option Addr) (n vc : Nat) (c : Cf) (hok : c.Ok) (q0 : decide ((200 : Int) < (n : Int)) = false) (q1 : decide ((100 : Int) < (c.asks : Int)) = false) (q2 : decide ((1048576 : Int) ≤ (c.pause : Int)) = true) (w : World) :
    Calls Try.prog 3 #[cfv c.most c.waits c.each c.known c.asks c.pause, .slice vs n vc] w fun e w' => e = .returned (.bool true) ∧ Below w.heap.size w w' := by
  have HN := hide (fun w => new_pn (No := fun _ => False) hok w (fun i hi => hi.elim))
  have HA := hide alive_any
  have HB := hide (below_one w (.cells #[.int .i64 (c.most : Int), .int .i64 (c.waits : Int), .int .i64 (c.each : Int), .int .i64 (c.known : Int), .int .i64 (c.asks : Int), .int .i64 (c.pause : Int)] 23))
  have HX := hide (heap_alloc_new w (.cells #[.int .i64 (c.most : Int), .int .i64 (c.waits : Int), .int .i64 (c.each : Int), .int .i64 (c.known : Int), .int .i64 (c.asks : Int), .int .i64 (c.pause : Int)] 23))
  clear hok
  go_enter Try.func3, Try.ntmps3
  go_wp2_with fail
  refine (unhide HN _).mono ?_
  rintro en w2 ⟨p, b, rfl, hP, hB⟩
  have HB2 := hide (tr2 (unhide HB) hB)
  obtain ⟨d1, d2, d3, d4, d5⟩ := conf_cells9 ((hB.block w.heap.size (by simp)).trans (unhide HX))
  clear hB HN HB hP HX
  go_wp2_with fail
  refine (unhide HA _).mono ?_
  rintro e w3 ⟨rfl, hB3⟩
  go_wp2
  go_ret
  exact ⟨rfl, tr2 (unhide HB2) hB3⟩

theorem nearOnce_walk (v : Value) (a b c d e f : Int) (lv : Value) (l : List Cl) (w : World) (hv : IsConf v a b c d e f) (hl : IsCalls w lv l) :
    Calls Try.prog 3 #[v, lv] w fun e w' => e = .returned (.bool true) ∧ Below w.heap.size w w' := by
  obtain ⟨rfl, _, _, hc, _, _, _⟩ := hv
  obtain ⟨vs, vc, hvs⟩ : ∃ vs vc, lv = .slice vs l.length vc := by
    rcases hl.1 with ⟨⟨a, c, rfl⟩, rfl⟩ | ⟨g, off, cp, h1, _⟩
    · exact ⟨a, c, rfl⟩
    · exact ⟨_, _, h1⟩
  rcases conf_cases a b c d e f hc with ⟨k, hok, rfl, rfl, rfl, rfl, rfl, rfl⟩ | hn
  · by_cases h0 : (200 : Int) < (l.length : Int)
    · rw [hvs]
      exact once_skip0 vs l.length vc k hok (decide_eq_true h0) w
    · by_cases h1 : (100 : Int) < (k.asks : Int)
      · rw [hvs]
        exact once_skip1 vs l.length vc k hok (decide_eq_false h0) (decide_eq_true h1) w
      · by_cases h2 : (1048576 : Int) ≤ (k.pause : Int)
        · rw [hvs]
          exact once_skip2 vs l.length vc k hok (decide_eq_false h0) (decide_eq_false h1) (decide_eq_true h2) w
        · exact once_main k hok (by omega) (by omega) lv l (by omega) w hl
  · rw [hvs]
    by_cases h0 : (200 : Int) < (l.length : Int)
    · exact once_noa vs l.length vc a b c d e f hn (decide_eq_true h0) w
    · exact once_nob vs l.length vc a b c d e f hn (decide_eq_false h0) w
end Go.Proofs.Ytjcigoojlmalnaa
