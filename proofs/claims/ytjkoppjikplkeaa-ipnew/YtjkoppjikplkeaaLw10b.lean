/- The statement IpTells of layer 10, as a contract over the loaded program. -/
import Derived.Test.YtjkoppjikplkeaaEq10
import Derived.Test.YtjkoppjikplkeaaRd13
namespace Go.Proofs.Ytjkoppjikplkeaa
open Go.RowKit

theorem decV_parts (s : ByteArray) : ∃ (x : Rh) (c : ByteArray) (e : Int), decV s = .tuple #[hdV x, .string c, .int .i64 e] := by
  unfold decV
  split
  · exact ⟨_, _, _, rfl⟩
  · exact ⟨⟨0, 0, false, false, 0, 0, 0, 0, 0, ⟨#[]⟩⟩, _, _, rfl⟩
theorem box_hd (w : World) (h : Rh) : Tab w 1 (add (fun _ _ => none) 0 (hdL h)) (w.alloc (.cells (hdL h).toArray 25)) := (Tab.zero w).alloc rfl (hdL h) _
theorem toList_refl (s : ByteArray) : (s.toList == s.toList) = true := by simp
theorem hd_same (a : Rh) (w : World) : (binOp .eql 25 (hdV a) (hdV a)).run Try.prog w = .ok (.bool true) w := by
  rw [eql_hd, decide_eq_true rfl]

set_option maxHeartbeats 1000000 in
theorem tells_long (h : Rh) (d s : ByteArray) (w : World) (r : Bool) (hr : r = true ∨ 131072 < s.size)
    (H1 : Hid (∀ w, Calls Try.prog 9 #[hdV h, .string d] w fun e w' => e = .returned (.bool r) ∧ Below w.heap.size w w')) :
    Calls Try.prog 3 #[hdV h, .string d, .string s] w fun e w' => e = .returned (.bool true) ∧ Below w.heap.size w w' := by
  have H2 := hide alive_any
  have BX := hide (box_hd w h)
  rcases hr with rfl | hr
  · go_enter Try.func3, Try.ntmps3
    obtain ⟨c0, c1, c2, c3, c4, c5, c6, c7, c8, c9⟩ := ten0 (unhide BX) 0 rfl rfl rfl rfl rfl rfl rfl rfl rfl rfl
    simp only [Nat.add_zero, hdL] at c0 c1 c2 c3 c4 c5 c6 c7 c8 c9
    go_wp2_with fail
    refine (unhide H1 _).mono ?_
    rintro e w1 ⟨rfl, b1⟩
    go_wp2_with fail
    refine (unhide H2 _).mono ?_
    rintro e w2 ⟨rfl, b2⟩
    go_wp2_with fail
    go_ret
    exact ⟨rfl, tr2 ((unhide BX).on b1).bel b2⟩
  · cases r <;> go_enter Try.func3, Try.ntmps3
    all_goals
      obtain ⟨c0, c1, c2, c3, c4, c5, c6, c7, c8, c9⟩ := ten0 (unhide BX) 0 rfl rfl rfl rfl rfl rfl rfl rfl rfl rfl
      simp only [Nat.add_zero, hdL] at c0 c1 c2 c3 c4 c5 c6 c7 c8 c9
      go_wp2_with fail
      refine (unhide H1 _).mono ?_
      rintro e w1 ⟨rfl, b1⟩
      go_wp2_with fail
      refine (unhide H2 _).mono ?_
      rintro e w2 ⟨rfl, b2⟩
      go_wp2_with fail
      go_ret
      exact ⟨rfl, tr2 ((unhide BX).on b1).bel b2⟩

set_option maxRecDepth 20000 in
set_option maxHeartbeats 2000000 in
theorem tells_main (h : Rh) (d s : ByteArray) (w : World) (hs : ¬ 131072 < s.size) (m : Bool) (S C : ByteArray) (E E2 : Int) (x : Rh)
    (H1 : Hid (∀ w, Calls Try.prog 9 #[hdV h, .string d] w fun e w' => e = .returned (.bool false) ∧ Below w.heap.size w w'))
    (H2 : Hid (∀ w, Calls Try.prog 11 #[hdV h, .string d] w fun e w' => e = .returned (.tuple #[.string S, .int .i64 E]) ∧ Below w.heap.size w w'))
    (H3 : Hid (∀ w, Calls Try.prog 12 #[hdV h, .string d] w fun e w' => e = .returned (.tuple #[.string S, .int .i64 E]) ∧ Below w.heap.size w w'))
    (H4 : Hid (∀ w, Calls Try.prog 13 #[.string s] w fun e w' => e = .returned (.tuple #[hdV x, .string C, .int .i64 E2]) ∧ Below w.heap.size w w'))
    (H5 : Hid (∀ w, Calls Try.prog 14 #[.string s] w fun e w' => e = .returned (.tuple #[hdV x, .string C, .int .i64 E2]) ∧ Below w.heap.size w w'))
    (H6 : Hid (∀ w, Calls Try.prog 15 #[hdV h] w fun e w' => e = .returned (.bool m) ∧ Below w.heap.size w w'))
    (H7 : Hid (∀ w, Calls Try.prog 16 #[hdV h] w fun e w' => e = .returned (.bool m) ∧ Below w.heap.size w w')) :
    Calls Try.prog 3 #[hdV h, .string d, .string s] w fun e w' => e = .returned (.bool true) ∧ Below w.heap.size w w' := by
  have H8 := hide alive_any
  have BX := hide (fun w => box_hd w x)
  have hS := toList_refl S
  have hC := toList_refl C
  have eq := hd_same x
  have mm := beq_self_eq_true m
  have K0 := hide (box_hd w h)
  go_enter Try.func3, Try.ntmps3
  obtain ⟨c0, c1, c2, c3, c4, c5, c6, c7, c8, c9⟩ := ten0 (unhide K0) 0 rfl rfl rfl rfl rfl rfl rfl rfl rfl rfl
  simp only [Nat.add_zero, hdL] at c0 c1 c2 c3 c4 c5 c6 c7 c8 c9
  go_wp2_with fail
  refine (unhide H1 _).mono ?_
  rintro e w1 ⟨rfl, b1⟩
  have K1 := hide ((unhide K0).on b1)
  clear b1 H1 K0 c0 c1 c2 c3 c4 c5 c6 c7 c8 c9
  obtain ⟨c0, c1, c2, c3, c4, c5, c6, c7, c8, c9⟩ := ten0 (unhide K1) 0 rfl rfl rfl rfl rfl rfl rfl rfl rfl rfl
  simp only [Nat.add_zero] at c0 c1 c2 c3 c4 c5 c6 c7 c8 c9
  go_wp2_with fail
  refine (unhide H2 _).mono ?_
  rintro e w2 ⟨rfl, b2⟩
  have K2 := hide ((unhide K1).on b2)
  clear b2 H2 K1 c0 c1 c2 c3 c4 c5 c6 c7 c8 c9
  obtain ⟨c0, c1, c2, c3, c4, c5, c6, c7, c8, c9⟩ := ten0 (unhide K2) 0 rfl rfl rfl rfl rfl rfl rfl rfl rfl rfl
  simp only [Nat.add_zero] at c0 c1 c2 c3 c4 c5 c6 c7 c8 c9
  go_wp2_with fail
  refine (unhide H3 _).mono ?_
  rintro e w3 ⟨rfl, b3⟩
  have K3 := hide ((unhide K2).on b3)
  clear b3 H3 K2 c0 c1 c2 c3 c4 c5 c6 c7 c8 c9
  go_wp2_with fail
  refine (unhide H4 _).mono ?_
  rintro e w4 ⟨rfl, b4⟩
  have K4 := hide (((unhide K3).on b4).on (below_one w4 (.cells (hdL x).toArray 25)))
  have X4 := hide (unhide BX w4)
  clear b4 H4 K3
  go_wp2_with fail
  refine (unhide H5 _).mono ?_
  rintro e w5 ⟨rfl, b5⟩
  have K5 := hide (((unhide K4).on b5).on (below_one w5 (.cells (hdL x).toArray 25)))
  have X5 := hide (((unhide X4).on b5).on (below_one w5 (.cells (hdL x).toArray 25)))
  have Y5 := hide (unhide BX w5)
  clear b5 H5 K4 X4 BX
  go_wp2_with fail
  obtain ⟨c0, c1, c2, c3, c4, c5, c6, c7, c8, c9⟩ := ten0 (unhide K5) 0 rfl rfl rfl rfl rfl rfl rfl rfl rfl rfl
  obtain ⟨x0, x1, x2, x3, x4, x5, x6, x7, x8, x9⟩ := ten0 (unhide X5) 0 rfl rfl rfl rfl rfl rfl rfl rfl rfl rfl
  obtain ⟨g0, g1, g2, g3, g4, g5, g6, g7, g8, g9⟩ := ten0 (unhide Y5) 0 rfl rfl rfl rfl rfl rfl rfl rfl rfl rfl
  simp only [Nat.add_zero] at c0 c1 c2 c3 c4 c5 c6 c7 c8 c9 x0 x1 x2 x3 x4 x5 x6 x7 x8 x9 g0 g1 g2 g3 g4 g5 g6 g7 g8 g9
  have BEL := hide (unhide K5).bel
  clear K5 X5 Y5
  simp only [hdL] at BEL c0 c1 c2 c3 c4 c5 c6 c7 c8 c9 x0 x1 x2 x3 x4 x5 x6 x7 x8 x9 g0 g1 g2 g3 g4 g5 g6 g7 g8 g9
  generalize w5.alloc _ = w6 at *
  have c0 := cell_regrown c0
  have c1 := cell_regrown c1
  have c2 := cell_regrown c2
  have c3 := cell_regrown c3
  have c4 := cell_regrown c4
  have c5 := cell_regrown c5
  have c6 := cell_regrown c6
  have c7 := cell_regrown c7
  have c8 := cell_regrown c8
  have c9 := cell_regrown c9
  have x0 := cell_regrown x0
  have x1 := cell_regrown x1
  have x2 := cell_regrown x2
  have x3 := cell_regrown x3
  have x4 := cell_regrown x4
  have x5 := cell_regrown x5
  have x6 := cell_regrown x6
  have x7 := cell_regrown x7
  have x8 := cell_regrown x8
  have x9 := cell_regrown x9
  have g0 := cell_regrown g0
  have g1 := cell_regrown g1
  have g2 := cell_regrown g2
  have g3 := cell_regrown g3
  have g4 := cell_regrown g4
  have g5 := cell_regrown g5
  have g6 := cell_regrown g6
  have g7 := cell_regrown g7
  have g8 := cell_regrown g8
  have g9 := cell_regrown g9
  have q1 := rgB (w := w6) (unhide H6)
  have q2 := rgB (w := w6) (unhide H7)
  have q3 := rgB (w := w6) (unhide H8)
  refine wp_region_quiet_below (by kernel_rfl) (by kernel_rfl) ?_
  repeat (quiet_step (fail))
  quiet_step (exact q1 _ _)
  repeat (quiet_step (fail))
  quiet_step (exact q2 _ _)
  repeat (quiet_step (fail))
  quiet_step (exact q3 _ _)
  repeat (quiet_step (fail))
  refine wpQuiet_nil ?_
  intro _ hw'
  obtain ⟨⟨dq, osq⟩, hw''⟩ := hw'
  subst hw''
  go_wp2
  go_ret
  exact ⟨rfl, tr2 (unhide BEL) (below_regrown w6 dq osq)⟩

theorem ipTells_walk (v : Value) (h : Rh) (d s : ByteArray) (w : World) (hv : IsHead v h) (hd : d.size ≤ maxLen) (_ : s.size ≤ maxLen) :
    Calls Try.prog 3 #[v, .string d, .string s] w fun e w' => e = .returned (.bool true) ∧ Below w.heap.size w w' := by
  obtain rfl := hv.eq
  have HL := hide (fun w => long_any h d w hv.op hd)
  by_cases hl : longB h d
  · exact tells_long h d s w _ (.inl (decide_eq_true hl)) HL
  by_cases hs : 131072 < s.size
  · exact tells_long h d s w _ (.inr hs) HL
  rw [decide_eq_false hl] at HL
  unfold longB at hl
  have hi := hv.in' (by omega)
  obtain ⟨S, E, he⟩ := enc_ex h d
  obtain ⟨x, C, E2, hx⟩ := decV_parts s
  have H4 := hide (fun w => decode_any s w (by omega))
  have H5 := hide (fun w => rdecode_any s w (by omega))
  rw [hx] at H4 H5
  exact tells_main h d s w hs _ S C E E2 x HL (fun w => encode_any h d w hi (by omega) he) (fun w => rencode_any h d w hi (by omega) he) H4 H5 (fun w => may_any h w hi) (fun w => rmay_any h w hi)

end Go.Proofs.Ytjkoppjikplkeaa
