/- The walk of the law EtherMacs, over the loaded program: true; no memory that was there has turned. No conditions. -/
import Derived.Test.YtdgjoconppmihaaLw7a
import Derived.Test.YtdgjoconppmihaaRf9
namespace Go.Proofs.Ytdgjoconppmihaa
open Go.RowKit

set_option maxHeartbeats 1000000 in
theorem macs_long1 (m t f k : Nat) (d s : ByteArray) (w : World) (h : (131072 : Int) < (d.size : Int)) :
    Calls Try.prog 4 #[.int .u64 (m : Int), .string s, fr t f k d] w fun e w' => e = .returned (.bool true) ∧ Below w.heap.size w w' := by
  have H1 := hide (fun w => long_any t f k d w)
  rw [decide_eq_true h] at H1
  have H2 := hide alive_any
  have BEL := hide (below_one w (.cells #[.int .u64 (t : Int), .int .u64 (f : Int), .int .u16 (k : Int), .string d] 26))
  clear h
  go_enter Try.func4, Try.ntmps4
  go_wp2_with fail
  refine (unhide H1 _).mono ?_
  rintro e w1 ⟨rfl, b1⟩
  go_wp2_with fail
  refine (unhide H2 _).mono ?_
  rintro e w2 ⟨rfl, b2⟩
  go_wp2_with fail
  go_ret
  exact ⟨rfl, tr2 (tr2 (unhide BEL) b1) b2⟩

set_option maxHeartbeats 1000000 in
theorem macs_long2 (m t f k : Nat) (d s : ByteArray) (w : World) (h : (d.size : Int) ≤ 131072) (h2 : (256 : Int) < (s.size : Int)) :
    Calls Try.prog 4 #[.int .u64 (m : Int), .string s, fr t f k d] w fun e w' => e = .returned (.bool true) ∧ Below w.heap.size w w' := by
  have H1 := hide (fun w => long_any t f k d w)
  rw [decide_eq_false (by omega)] at H1
  have H2 := hide alive_any
  have BEL := hide (below_one w (.cells #[.int .u64 (t : Int), .int .u64 (f : Int), .int .u16 (k : Int), .string d] 26))
  have g := decide_eq_true h2
  clear h h2
  go_enter Try.func4, Try.ntmps4
  go_wp2_with fail
  refine (unhide H1 _).mono ?_
  rintro e w1 ⟨rfl, b1⟩
  go_wp2_with fail
  refine (unhide H2 _).mono ?_
  rintro e w2 ⟨rfl, b2⟩
  go_wp2_with fail
  go_ret
  exact ⟨rfl, tr2 (tr2 (unhide BEL) b1) b2⟩

set_option maxRecDepth 20000 in
set_option maxHeartbeats 2000000 in
theorem macs_main (m t f k : Nat) (d s : ByteArray) (w : World) (h : (d.size : Int) ≤ 131072) (h2 : (s.size : Int) ≤ 256) (A : Nat) (E : Int) (X : ByteArray) (r : Bool)
    (H1 : Hid (∀ w, Calls Try.prog 14 #[.string s] w fun x w' => x = .returned (.tuple #[.int .u64 (A : Int), .int .i64 E]) ∧ Below w.heap.size w w'))
    (H2 : Hid (∀ w, Calls Try.prog 15 #[.string s] w fun x w' => x = .returned (.tuple #[.int .u64 (A : Int), .int .i64 E]) ∧ Below w.heap.size w w'))
    (H3 : Hid (∀ w, Calls Try.prog 16 #[.int .u64 (m : Int)] w fun x w' => x = .returned (.string X) ∧ Below w.heap.size w w'))
    (H4 : Hid (∀ w, Calls Try.prog 17 #[.int .u64 (m : Int)] w fun x w' => x = .returned (.string X) ∧ Below w.heap.size w w'))
    (H5 : Hid (∀ w, Calls Try.prog 18 #[fr t f k d, .int .u64 (m : Int)] w fun x w' => x = .returned (.bool r) ∧ Below w.heap.size w w'))
    (H6 : Hid (∀ w, Calls Try.prog 19 #[fr t f k d, .int .u64 (m : Int)] w fun x w' => x = .returned (.bool r) ∧ Below w.heap.size w w')) :
    Calls Try.prog 4 #[.int .u64 (m : Int), .string s, fr t f k d] w fun e w' => e = .returned (.bool true) ∧ Below w.heap.size w w' := by
  have H0 := hide (fun w => long_any t f k d w)
  rw [decide_eq_false (by omega)] at H0
  have g := decide_eq_false (show ¬ (256 : Int) < (s.size : Int) by omega)
  have K0 := hide (box_start w t f k d 26)
  have hS := toList_refl X
  have hr : (r == r) = true := by cases r <;> rfl
  clear h h2
  go_enter Try.func4, Try.ntmps4
  go_wp2_with fail
  refine (unhide H0 _).mono ?_
  rintro e w1 ⟨rfl, b1⟩
  have K1 := hide ((unhide K0).on b1)
  clear K0 b1 H0
  go_wp2_with fail
  refine (unhide H1 _).mono ?_
  rintro e w2 ⟨rfl, b2⟩
  have K2 := hide ((unhide K1).on b2)
  clear K1 b2 H1
  go_wp2_with fail
  refine (unhide H2 _).mono ?_
  rintro e w3 ⟨rfl, b3⟩
  have k3 := (unhide K2).on b3
  clear K2 b3 H2
  go_wp2_with fail
  obtain ⟨c0, c1, c2, c3⟩ := box_cells k3
  have k0 := cell_regrown c0
  have k1 := cell_regrown c1
  have k2 := cell_regrown c2
  have k4 := cell_regrown c3
  have BEL := hide k3.bel
  clear c0 c1 c2 c3 k3
  have q1 := rgB (w := w3) (unhide H3)
  have q2 := rgB (w := w3) (unhide H4)
  have q3 := rgB (w := w3) (unhide H5)
  have q4 := rgB (w := w3) (unhide H6)
  have q5 := rgB (w := w3) alive_any
  clear H3 H4 H5 H6
  try simp only [List.append]
  refine wp_region_quiet_below (by kernel_rfl) (by kernel_rfl) ?_
  repeat (quiet_step (fail))
  quiet_step (exact q1 _ _)
  repeat (quiet_step (fail))
  quiet_step (exact q2 _ _)
  repeat (quiet_step (fail))
  quiet_step (exact q3 _ _)
  repeat (quiet_step (fail))
  quiet_step (exact q4 _ _)
  repeat (quiet_step (fail))
  quiet_step (exact q5 _ _)
  repeat (quiet_step (fail))
  refine wpQuiet_nil ?_
  intro _ hw'
  obtain ⟨⟨dq, osq⟩, hw''⟩ := hw'
  subst hw''
  go_wp2
  go_ret
  exact ⟨rfl, tr2 (unhide BEL) (below_regrown w3 dq osq)⟩

/-- what Parse answers, here and there -/
theorem parse_both (s : ByteArray) (hs : s.size ≤ 65536) : ∃ (A : Nat) (E : Int), (∀ w, Calls Try.prog 14 #[.string s] w fun x w' => x = .returned (.tuple #[.int .u64 (A : Int), .int .i64 E]) ∧ Below w.heap.size w w') ∧
    (∀ w, Calls Try.prog 15 #[.string s] w fun x w' => x = .returned (.tuple #[.int .u64 (A : Int), .int .i64 E]) ∧ Below w.heap.size w w') := by
  by_cases h : ∃ x, x < 281474976710656 ∧ s.data.toList = mtxt x
  · obtain ⟨x, hx, e⟩ := h
    have hs := mk_list s
    rw [e] at hs
    subst hs
    exact ⟨x, 0, fun w => parse_txt x hx w, fun w => rparse_txt x hx w⟩
  · have h' : ∀ x, x < 281474976710656 → s.data.toList ≠ mtxt x := fun x hx e => h ⟨x, hx, e⟩
    exact ⟨0, 8, fun w => parse_no s h' w, fun w => rparse_no s hs h' w⟩

theorem etherMacs_walk (x : Int) (s : ByteArray) (v : Value) (t f k : Nat) (d : ByteArray) (w : World) (hx : (Lit.int .u64 x).wf = true) (_ : s.size ≤ maxLen) (hv : IsFrame v t f k d) :
    Calls Try.prog 4 #[.int .u64 x, .string s, v] w fun e w' => e = .returned (.bool true) ∧ Below w.heap.size w w' := by
  obtain ⟨m, rfl, hm⟩ := nat64 hx
  obtain ⟨rfl, ht, hf, hk, hd⟩ := hv
  by_cases h1 : (131072 : Int) < (d.size : Int)
  · exact macs_long1 m t f k d s w h1
  · by_cases h2 : (256 : Int) < (s.size : Int)
    · exact macs_long2 m t f k d s w (by omega) h2
    · obtain ⟨A, E, p1, p2⟩ := parse_both s (by omega)
      exact macs_main m t f k d s w (by omega) (by omega) A E _ _ p1 p2 (fun w => text_any m w hm) (fun w => rtext_any m w hm) (fun w => for_any t f k d m w) (fun w => rfor_any t f k d m w)

end Go.Proofs.Ytdgjoconppmihaa
