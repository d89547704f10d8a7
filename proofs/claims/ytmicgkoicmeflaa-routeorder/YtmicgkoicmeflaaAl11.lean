/- What no table answers; the laws' alive(), over the loaded program. -/
import Derived.Test.YtmicgkoicmeflaaRt11
namespace Go.Proofs.Ytmicgkoicmeflaa
open Go.RowKit

section
variable (w : World)
set_option maxRecDepth 100000 in
theorem add_nil (r : Rt) : Calls Try.prog 10 #[.pointer none, rtV r] w fun e w' => e = .returned (.int .i64 1) ∧ Below w.heap.size w w' := by
  have H := hide made_nil
  have B := hide (below_one w (.cells (rtCs r) 32))
  go_enter Try.func10, Try.ntmps10
  go_wp2_with fail
  refine (unhide H _).mono ?_
  rintro e w1 ⟨rfl, rfl⟩
  go_wp2
  go_ret
  exact ⟨rfl, unhide B⟩
theorem drop_nil (n c : Int) : Calls Try.prog 12 #[.pointer none, .int .u32 n, .int .i64 c] w fun e w' => e = .returned (.bool false) ∧ w' = w := by
  have H := hide made_nil
  go_enter Try.func12, Try.ntmps12
  go_wp2_with fail
  refine (unhide H _).mono ?_
  rintro e w1 ⟨rfl, rfl⟩
  go_wp2
  go_ret
  exact ⟨rfl, rfl⟩
theorem all_nil : Calls Try.prog 17 #[.pointer none] w fun e w' => e = .returned (.slice none 0 0) ∧ w' = w := by
  have H := hide made_nil
  go_enter Try.func17, Try.ntmps17
  go_wp2_with fail
  refine (unhide H _).mono ?_
  rintro e w1 ⟨rfl, rfl⟩
  go_wp2
  go_ret
  exact ⟨rfl, rfl⟩
set_option maxRecDepth 100000 in
theorem find_nil (ip : Int) : Calls Try.prog 14 #[.pointer none, .int .u32 ip] w fun e w' => e = .returned (.tuple #[rtZ, .bool false]) ∧ Below w.heap.size w w' := by
  have H := hide made_nil
  go_enter Try.func14, Try.ntmps14
  go_wp2_with fail
  refine (unhide H _).mono ?_
  rintro e w1 ⟨rfl, rfl⟩
  go_wp2
  refine bodyPost_ret (v := .tuple #[rtZ, .bool false]) (by simp [results, Try.results14, go_sem]) rfl ⟨rfl, ?_⟩
  exact (((Below.refl _ w).alloc (Nat.le_refl _) _).alloc (by simp) _).alloc (by simp; omega) _
end

abbrev R1 : Rt := ⟨0, 0, 9, 0, 0⟩
abbrev R2 : Rt := ⟨167837696, 16, 0, 1, 0⟩
abbrev R3 : Rt := ⟨167838212, 32, 0, 2, 0⟩
abbrev R4 : Rt := ⟨1, 16, 0, 0, 0⟩
theorem rin_of (n : Nat) (b : Int) (v : Nat) (c : Int) (s : Nat) (h : (decide (n < 4294967296) && decide (-9223372036854775808 ≤ b) && decide (b ≤ 9223372036854775807) && decide (v < 4294967296) && decide (-9223372036854775808 ≤ c) && decide (c ≤ 9223372036854775807) && decide (s < 4294967296)) = true) : Rin ⟨n, b, v, c, s⟩ := by
  simp only [Bool.and_eq_true, decide_eq_true_iff] at h
  obtain ⟨⟨⟨⟨⟨⟨h1, h2⟩, h3⟩, h4⟩, h5⟩, h6⟩, h7⟩ := h
  exact ⟨h1, h2, h3, h4, h5, h6, h7⟩
theorem al_1 : addE R1 [] = 0 ∧ addT R1 [] = [R1] := by decide +kernel
theorem al_2 : addE R2 [R1] = 0 ∧ addT R2 [R1] = [R2, R1] := by decide +kernel
theorem al_3 : addE R3 [R2, R1] = 0 ∧ addT R3 [R2, R1] = [R3, R2, R1] := by decide +kernel
theorem al_4 : addE R4 [R3, R2, R1] = 2 ∧ addT R4 [R3, R2, R1] = [R3, R2, R1] := by decide +kernel
theorem al_f1 : findR 167838211 [R1] = some R1 := by decide +kernel
theorem al_f2 : findR 167838211 [R3, R2, R1] = some R2 := by decide +kernel
theorem al_d1 : (lookR 167837696 16 [R3, R2, R1]).isSome = true ∧ delR 167837696 16 [R3, R2, R1] = [R3, R1] := by decide +kernel
theorem al_d2 : (lookR 167837696 16 [R3, R1]).isSome = false := by decide +kernel

theorem add_at {w : World} {p b : Nat} {L : List Rt} (h : PT w p b L) (r : Rt) (hr : Rin r) (c : Int) (L' : List Rt) (he : addE r L = c ∧ addT r L = L') :
    Calls Try.prog 10 #[.pointer (some ⟨p, 0, none⟩), rtV r] w fun e w' => e = .returned (.int .i64 c) ∧ PT w' p b L' ∧ w.grownBy w' (some b) := by
  have := add_any h r hr
  rwa [he.1, he.2] at this
theorem find_at' {w : World} {p b : Nat} {L : List Rt} (h : PT w p b L) (ip : Nat) (hip : ip < 4294967296) (y : Rt) (he : findR ip L = some y) :
    Calls Try.prog 14 #[.pointer (some ⟨p, 0, none⟩), .int .u32 (ip : Int)] w fun e w' => e = .returned (.tuple #[rtV y, .bool true]) ∧ Below w.heap.size w w' := by
  have := find_any h ip hip
  rwa [he] at this

theorem keep_cell {w w' : World} {b : Nat} (g : w.grownBy w' (some b)) {a : Addr} (hne : a.block ≠ b) {v : Value} (h : w.cell? a = some v) : w'.cell? a = some v :=
  (World.cell?_of_block (g.block a.block (cell_lt' h) (fun e => hne (by cases e; rfl)))).trans h
theorem drop_at {w : World} {p b : Nat} {L : List Rt} (h : PT w p b L) (n : Nat) (c : Int) (hk : Kin n c) (t : Bool) (he : (lookR n c L).isSome = t) :
    Calls Try.prog 12 #[.pointer (some ⟨p, 0, none⟩), .int .u32 (n : Int), .int .i64 c] w fun e w' => e = .returned (.bool t) ∧ PT w' p b (delR n c L) ∧ w.grownBy w' (some b) := by
  have := drop_any h n c hk
  rwa [he] at this
/-- the row of all, its first route's card -/
theorem first_card {w : World} {sp : Option Addr} {n cap : Nat} {r : Rt} {L : List Rt} (h : RtsAt w (.slice sp n cap) (r :: L)) : ∃ g off, sp = some ⟨g, off, none⟩ ∧ g < w.heap.size ∧ w.cell? ⟨g, off + 3, none⟩ = some (.int .i64 r.c) := by
  rcases h with ⟨_, e⟩ | ⟨g, off, cap', e, hg, hc⟩
  · cases e
  · injection e with e1 e2 e3
    have := hc 0 r rfl 3 (.int .i64 r.c) rfl
    rw [show off + 0 * 5 + 3 = off + 3 by omega] at this
    exact ⟨g, off, e1, hg, this⟩

set_option maxRecDepth 100000 in
set_option maxHeartbeats 4000000 in
theorem alive_any (w : World) : Calls Try.prog 8 #[] w fun e w' => e = .returned (.bool true) ∧ Below w.heap.size w w' := by
  have HN := hide (new_any w)
  go_enter Try.func8, Try.ntmps8
  go_wp2_with fail
  refine (unhide HN).mono ?_
  rintro e w1 ⟨p, b, rfl, P1, B1, hp, hb⟩
  have H1 := hide (add_at P1 R1 (rin_of _ _ _ _ _ (by decide +kernel)) _ _ al_1)
  clear P1
  go_wp2_with fail
  refine (unhide H1).mono ?_
  rintro e w2 ⟨rfl, P2, g2⟩
  have B2 := hide (B1.trans (grown_below g2 B1.size hb))
  have F2 := hide (find_at' P2 167838211 (by decide) R1 al_f1)
  have P2 := hide P2
  clear g2 B1 H1
  go_wp2_with fail
  refine (unhide F2).mono ?_
  rintro e w3 ⟨rfl, b3⟩
  have P3 := (unhide P2).below (b3)
  have B3 := (unhide B2).trans (b3.mono (unhide B2).size)
  have E3 := heap_alloc_new w3 (.cells (rtCs R1) 32)
  have m3 := cell_of_row _ _ 2 _ _ _ E3
  have P3' := P3.below (below_one w3 (.cells (rtCs R1) 32))
  have hb3 : b < w3.heap.size := P3.blt
  have H4 := hide (add_at P3' R2 (rin_of _ _ _ _ _ (by decide +kernel)) _ _ al_2)
  have B3 := hide (B3.alloc B3.size (.cells (rtCs R1) 32))
  clear P3 P3' E3 b3 F2 P2 B2
  have M3 := hide m3
  clear m3
  go_wp2_with fail
  refine (unhide H4).mono ?_
  rintro e w4 ⟨rfl, P4, g4⟩
  have M4 := hide (keep_cell g4 (show w3.heap.size ≠ b by omega) (unhide M3))
  have B4 := hide ((unhide B3).trans (grown_below g4 (unhide B3).size hb))
  have H5 := hide (add_at P4 R3 (rin_of _ _ _ _ _ (by decide +kernel)) _ _ al_3)
  clear P4 g4 H4 M3 B3
  go_wp2_with fail
  refine (unhide H5).mono ?_
  rintro e w5 ⟨rfl, P5, g5⟩
  have M5 := hide (keep_cell g5 (show w3.heap.size ≠ b by omega) (unhide M4))
  have B5 := hide ((unhide B4).trans (grown_below g5 (unhide B4).size hb))
  have F5 := hide (find_at' P5 167838211 (by decide) R2 al_f2)
  have P5 := hide P5
  clear g5 H5 M4 B4
  go_wp2_with fail
  refine (unhide F5).mono ?_
  rintro e w6 ⟨rfl, b6⟩
  have P6 := (unhide P5).below b6
  have M6 := below_cell (unhide M5) (tr2 b6 (below_one w6 (.cells (rtCs R2) 32)))
  have B6 := (unhide B5).trans (b6.mono (unhide B5).size)
  have n6 := cell_of_row _ _ 3 _ _ _ (heap_alloc_new w6 (.cells (rtCs R2) 32))
  have P6' := P6.below (below_one w6 (.cells (rtCs R2) 32))
  have hb6 : b < w6.heap.size := P6.blt
  have H7 := hide (add_at P6' R4 (rin_of _ _ _ _ _ (by decide +kernel)) _ _ al_4)
  have B6 := hide (B6.alloc B6.size (.cells (rtCs R2) 32))
  have M6 := hide M6
  have N6 := hide n6
  clear P6 P6' n6 b6 F5 P5 B5 M5
  go_wp2_with fail
  refine (unhide H7).mono ?_
  rintro e w7 ⟨rfl, P7, g7⟩
  have M7 := hide (keep_cell g7 (show w3.heap.size ≠ b by omega) (unhide M6))
  have N7 := hide (keep_cell g7 (show w6.heap.size ≠ b by omega) (unhide N6))
  have B7 := hide ((unhide B6).trans (grown_below g7 (unhide B6).size hb))
  have A7 := hide (all_any P7)
  have P7 := hide P7
  clear g7 H7 M6 N6 B6
  go_wp2_with fail
  refine (unhide A7).mono ?_
  rintro e w8 ⟨sp, cap, rfl, hr, b8⟩
  obtain ⟨g, off, rfl, hg, hc⟩ := first_card hr
  have m8 := below_cell (unhide M7) b8
  have n8 := below_cell (unhide N7) b8
  have B8 := hide ((unhide B7).trans (b8.mono (unhide B7).size))
  have P8 := (unhide P7).below b8
  have D8 := hide (drop_at P8 167837696 16 ⟨by decide, by decide, by decide⟩ _ al_d1.1)
  simp only [List.length_cons, List.length_nil]
  clear hr b8 A7 P7 M7 N7 B7 P8
  go_wp2_with fail
  refine (unhide D8).mono ?_
  rintro e w9 ⟨rfl, P9, g9⟩
  rw [al_d1.2] at P9
  have B9 := hide ((unhide B8).trans (grown_below g9 (unhide B8).size hb))
  have D9 := hide (drop_at P9 167837696 16 ⟨by decide, by decide, by decide⟩ _ al_d2)
  clear P9 g9 D8 B8 m8 n8 hc
  go_wp2_with fail
  refine (unhide D9).mono ?_
  rintro e w10 ⟨rfl, P10, g10⟩
  have B10 := hide ((unhide B9).trans (grown_below g10 (unhide B9).size hb))
  clear P10 g10 D9 B9
  go_wp2_with fail
  go_ret
  exact ⟨rfl, unhide B10⟩
end Go.Proofs.Ytmicgkoicmeflaa
