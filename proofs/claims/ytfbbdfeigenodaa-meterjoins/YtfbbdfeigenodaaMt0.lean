/- The leaves of package meter, over the loaded program: what each call answers; no memory that was there has turned. -/
import Derived.Test.YtfbbdfeigenodaaFlt
import Derived.Deep.QuietTactic
import Derived.BigQuiet
import Derived.Lib.UnsafeStr
import Derived.Lib.FrozenHead
import Derived.Lib.ConvBytes
import Derived.Laws.MakeOwn
namespace Go.Proofs.Ytfbbdfeigenodaa
open Go.RowKit

theorem order_eq_F {a c : Nat} (ha : a ≤ 2 ^ 52) (hc : c ≤ 2 ^ 52) : (FloatKind.f64.format.order (F a) (F c) == some .eq) = decide (a = c) := by
  rw [order_F (lt53 ha) (lt53 hc)]
  rcases Nat.lt_trichotomy a c with g | g | g
  · rw [Nat.compare_eq_lt.2 g, decide_eq_false (by omega)]; rfl
  · rw [Nat.compare_eq_eq.2 g, decide_eq_true g]; rfl
  · rw [Nat.compare_eq_gt.2 g, decide_eq_false (by omega)]; rfl

theorem made_nil (w : World) : Calls Try.prog 25 #[.pointer none] w fun e w' => e = .returned (.bool false) ∧ w' = w := by
  go_enter Try.func25, Try.ntmps25
  go_wp2
  go_ret
  exact ⟨rfl, rfl⟩

set_option maxRecDepth 100000 in
theorem made_ok (p b : Nat) (w : World) (hc : w.cell? ⟨p, 0, none⟩ = some (.map (some b))) :
    Calls Try.prog 25 #[.pointer (some ⟨p, 0, none⟩)] w fun e w' => e = .returned (.bool true) ∧ w' = w := by
  have hq := run_neq_map_nil (P := Try.prog) w 62 9 32 (some b) Try.underlying62
  go_enter Try.func25, Try.ntmps25
  go_wp2
  go_ret
  exact ⟨rfl, rfl⟩

theorem new_any (w : World) : Calls Try.prog 17 #[] w fun e w' => e = .returned (.pointer (some ⟨w.heap.size + 1, 0, none⟩)) ∧ w' = (w.alloc (.map #[] 0)).alloc (.cells #[.map (some w.heap.size)] 64) := by
  have hmm := @run_makeMap Try.prog
  go_enter Try.func17, Try.ntmps17
  go_wp2
  go_ret
  exact ⟨rfl, rfl⟩

theorem fits_yes (n : Int) (w : World) (h0 : 0 ≤ n) (h1 : n ≤ 4503599627370496) : Calls Try.prog 36 #[.int .i64 n] w fun e w' => e = .returned (.bool true) ∧ w' = w := by
  have d1 : decide ((0 : Int) ≤ n) = true := decide_eq_true h0
  have d2 : decide (n ≤ (4503599627370496 : Int)) = true := decide_eq_true h1
  go_enter Try.func36, Try.ntmps36
  go_wp2
  go_ret
  exact ⟨by simp, rfl⟩
theorem fits_no (n : Int) (w : World) (h : ¬ (0 ≤ n ∧ n ≤ 4503599627370496)) : Calls Try.prog 36 #[.int .i64 n] w fun e w' => e = .returned (.bool false) ∧ w' = w := by
  by_cases h0 : 0 ≤ n
  · have d2 : decide (n ≤ (4503599627370496 : Int)) = false := decide_eq_false (fun g => h ⟨h0, g⟩)
    go_enter Try.func36, Try.ntmps36
    go_wp2
    go_ret
    exact ⟨by simp, rfl⟩
  · have d1 : decide ((0 : Int) ≤ n) = false := decide_eq_false h0
    go_enter Try.func36, Try.ntmps36
    go_wp2
    go_ret
    exact ⟨rfl, rfl⟩

theorem make_ok (n m : Nat) (w : World) (hn : n ≤ 4503599627370496) (hm : m ≤ 4503599627370496) :
    Calls Try.prog 22 #[.int .i64 (n : Int), .int .i64 (m : Int)] w fun e w' => e = .returned (.tuple #[.complex .f64 (F n) (F m), .int .i64 0]) ∧ w' = w := by
  have H1 := hide (fun w => fits_yes (n : Int) w (by omega) (by omega))
  have H2 := hide (fun w => fits_yes (m : Int) w (by omega) (by omega))
  go_enter Try.func22, Try.ntmps22
  go_wp2_with fail
  refine (unhide H1 _).mono ?_
  rintro e w1 ⟨rfl, rfl⟩
  go_wp2_with fail
  refine (unhide H2 _).mono ?_
  rintro e w1 ⟨rfl, rfl⟩
  go_wp2
  go_ret2
  exact ⟨rfl, rfl⟩
theorem make_no (n m : Int) (w : World) (h : ¬ ((0 ≤ n ∧ n ≤ 4503599627370496) ∧ (0 ≤ m ∧ m ≤ 4503599627370496))) :
    Calls Try.prog 22 #[.int .i64 n, .int .i64 m] w fun e w' => e = .returned (.tuple #[.complex .f64 0 0, .int .i64 2]) ∧ w' = w := by
  by_cases h0 : 0 ≤ n ∧ n ≤ 4503599627370496
  · have H1 := hide (fun w => fits_yes n w h0.1 h0.2)
    have H2 := hide (fun w => fits_no m w (fun g => h ⟨h0, g⟩))
    clear h h0
    go_enter Try.func22, Try.ntmps22
    go_wp2_with fail
    refine (unhide H1 _).mono ?_
    rintro e w1 ⟨rfl, rfl⟩
    go_wp2_with fail
    refine (unhide H2 _).mono ?_
    rintro e w1 ⟨rfl, rfl⟩
    go_wp2
    go_ret2
    exact ⟨rfl, rfl⟩
  · have H1 := hide (fun w => fits_no n w h0)
    clear h h0
    go_enter Try.func22, Try.ntmps22
    go_wp2_with fail
    refine (unhide H1 _).mono ?_
    rintro e w1 ⟨rfl, rfl⟩
    go_wp2
    go_ret2
    exact ⟨rfl, rfl⟩

theorem bounded_any (a b : Nat) (w : World) (ha : a ≤ 2 ^ 53) (hb : b ≤ 2 ^ 53) :
    Calls Try.prog 31 #[.complex .f64 (F a) (F b)] w fun e w' => e = .returned (.complex .f64 (F (min a (2 ^ 52))) (F (min b (2 ^ 52)))) ∧ w' = w := by
  have m1 := fun (w : World) => min_F (P := Try.prog) w #[61, 61] 61 ha
  have m2 := fun (w : World) => min_F (P := Try.prog) w #[61, 61] 61 hb
  have ft : F (2 ^ 52) = 4841369599423283200 := F_top
  rw [ft] at m1 m2
  clear ft
  go_enter Try.func31, Try.ntmps31
  go_wp2
  go_ret
  exact ⟨rfl, rfl⟩

theorem trunc_any (a : Nat) (w : World) (ha : a ≤ 2 ^ 52) : Calls Try.prog 43 #[.float .f64 (F a)] w fun e w' => e = .returned (.float .f64 (F a)) ∧ w' = w := by
  go_enter Try.func43, Try.ntmps43
  go_wp2
  rw [run_callFunc_extern Try.func47 (by kernel_rfl) (by kernel_rfl) (by kernel_rfl) (e := Extern.MathFloor.toIntegral "math.archTrunc" .zero) (by kernel_rfl), trunc_F w ha]
  simp only [Result.andThen]
  rw [Oper.upon_value]
  go_wp2
  go_ret
  exact ⟨rfl, rfl⟩

theorem is_same (a b : Nat) (w : World) (ha : a ≤ 2 ^ 52) (hb : b ≤ 2 ^ 52) :
    Calls Try.prog 12 #[.complex .f64 (F a) (F b), .int .i64 (a : Int), .int .i64 (b : Int)] w fun e w' => e = .returned (.bool true) ∧ w' = w := by
  have e1 : (FloatKind.f64.format.order (F a) (floatOfInt .f64 (a : Int)) == some .eq) = true := by rw [show floatOfInt .f64 (a : Int) = F a from rfl, order_eq_F ha ha]; exact decide_eq_true rfl
  have e2 : (FloatKind.f64.format.order (F b) (floatOfInt .f64 (b : Int)) == some .eq) = true := by rw [show floatOfInt .f64 (b : Int) = F b from rfl, order_eq_F hb hb]; exact decide_eq_true rfl
  go_enter Try.func12, Try.ntmps12
  go_wp2
  go_ret
  exact ⟨rfl, rfl⟩

theorem whole_ok (a : Nat) (w : World) (ha : a ≤ 2 ^ 52) : Calls Try.prog 35 #[.float .f64 (F a)] w fun e w' => e = .returned (.bool true) ∧ w' = w := by
  have H := hide (fun w => trunc_any a w ha)
  have e1 : (FloatKind.f64.format.order (F a) 0 == some .gt || FloatKind.f64.format.order (F a) 0 == some .eq) = true := by
    rw [← F_zero, order_F (lt53 ha) (by decide)]
    rcases Nat.eq_zero_or_pos a with g | g
    · rw [Nat.compare_eq_eq.2 g]; rfl
    · rw [Nat.compare_eq_gt.2 g]; rfl
  have e2 : (FloatKind.f64.format.order (F a) 4841369599423283200 == some .lt || FloatKind.f64.format.order (F a) 4841369599423283200 == some .eq) = true := by
    rw [← F_top, order_F (lt53 ha) (by decide)]
    rcases Nat.lt_or_ge a (2 ^ 52) with g | g
    · rw [Nat.compare_eq_lt.2 g]; rfl
    · rw [Nat.compare_eq_eq.2 (Nat.le_antisymm ha g)]; rfl
  have e3 : (FloatKind.f64.format.order (F a) (F a) == some .eq) = true := by rw [order_eq_F ha ha]; exact decide_eq_true rfl
  go_enter Try.func35, Try.ntmps35
  go_wp2_with fail
  refine (unhide H _).mono ?_
  rintro e w1 ⟨rfl, rfl⟩
  go_wp2
  go_ret
  exact ⟨rfl, rfl⟩

theorem read_ok (a b : Nat) (w : World) (ha : a ≤ 2 ^ 52) (hb : b ≤ 2 ^ 52) :
    Calls Try.prog 21 #[.complex .f64 (F a) (F b)] w fun e w' => e = .returned (.tuple #[.int .i64 (a : Int), .int .i64 (b : Int), .int .i64 0]) ∧ w' = w := by
  have H1 := hide (fun w => whole_ok a w ha)
  have H2 := hide (fun w => whole_ok b w hb)
  have c1 := fun w => run_convert_float_int (P := Try.prog) w 61 2 .f64 .i64 (F a) (a : Int) (by kernel_rfl) (by kernel_rfl) (toInt_F ha)
  have c2 := fun w => run_convert_float_int (P := Try.prog) w 61 2 .f64 .i64 (F b) (b : Int) (by kernel_rfl) (by kernel_rfl) (toInt_F hb)
  clear ha hb
  go_enter Try.func21, Try.ntmps21
  go_wp2_with fail
  refine (unhide H1 _).mono ?_
  rintro e w1 ⟨rfl, rfl⟩
  go_wp2_with fail
  refine (unhide H2 _).mono ?_
  rintro e w1 ⟨rfl, rfl⟩
  go_wp2
  go_ret3
  exact ⟨rfl, rfl⟩

end Go.Proofs.Ytfbbdfeigenodaa
