/- The walk of the law ArpTalk, over the loaded program: true; no memory that was there has turned. No conditions. -/
import Derived.Test.YtkmhhlimhiiciaaLw8b
import Derived.Laws.BitsAllLaws
namespace Go.Proofs.Ytkmhhlimhiiciaa
open Go.RowKit

theorem and48 (z : Nat) (h : z < 18446744073709551616) : bits .and .u64 (z : Int) 281474976710655 = ((z % 281474976710656 : Nat) : Int) := by
  rw [show (281474976710655 : Int) = ((281474976710655 : Nat) : Int) from rfl, u64_and_nat z 281474976710655 h (by omega), show (281474976710655 : Nat) = 2 ^ 48 - 1 from rfl, Nat.and_two_pow_sub_one_eq_mod]

abbrev q1 (x p q : Nat) : Value := .agg #[.int .u16 1, .int .u64 (x : Int), .int .u32 (p : Int), .int .u64 0, .int .u32 (q : Int)]
abbrev q2 (y q x p : Nat) : Value := .agg #[.int .u16 2, .int .u64 (y : Int), .int .u32 (q : Int), .int .u64 (x : Int), .int .u32 (p : Int)]
theorem beqI (a : Int) : (a == a) = true := by simp

set_option maxRecDepth 20000 in
set_option maxHeartbeats 4000000 in
theorem talk_main (a b p q x y : Nat) (w : World) (ea : bits .and .u64 (a : Int) 281474976710655 = (x : Int)) (eb : bits .and .u64 (b : Int) 281474976710655 = (y : Int)) (S1 S2 S3 : ByteArray)
    (E1 : Hid (∀ w, Calls Try.prog 8 #[q1 x p q] w fun e w' => e = .returned (.tuple #[.string S1, .int .i64 0]) ∧ Below w.heap.size w w'))
    (E2 : Hid (∀ w, Calls Try.prog 8 #[q2 y q x p] w fun e w' => e = .returned (.tuple #[.string S2, .int .i64 0]) ∧ Below w.heap.size w w'))
    (E3 : Hid (∀ w, Calls Try.prog 8 #[q1 x p p] w fun e w' => e = .returned (.tuple #[.string S3, .int .i64 0]) ∧ Below w.heap.size w w')) :
    Calls Try.prog 6 #[.int .u64 (a : Int), .int .u64 (b : Int), .int .u32 (p : Int), .int .u32 (q : Int)] w fun e w' => e = .returned (.bool true) ∧ Below w.heap.size w w' := by
  have H1 : Hid (∀ w, Calls Try.prog 14 #[.int .u64 (x : Int), .int .u32 (p : Int), .int .u32 (q : Int)] w fun e w' => e = .returned (q1 x p q) ∧ Below w.heap.size w w') := fun w => ask_any x p q w
  have H2 : Hid (∀ w, Calls Try.prog 12 #[q1 x p q, .int .u64 (y : Int)] w fun e w' => e = .returned (.tuple #[q2 y q x p, .bool true]) ∧ Below w.heap.size w w') := fun w => tell_yes x p 0 q y w
  have H3 : Hid (∀ w, Calls Try.prog 12 #[q2 y q x p, .int .u64 (x : Int)] w fun e w' => e = .returned (.tuple #[ar0, .bool false]) ∧ Below w.heap.size w w') := fun w => tell_no 2 y q x p x w rfl
  have H4 : Hid (∀ w, Calls Try.prog 16 #[.int .u64 (x : Int), .int .u32 (p : Int)] w fun e w' => e = .returned (q1 x p p) ∧ Below w.heap.size w w') := fun w => call_any x p w
  have H5 := hide alive_any
  go_enter Try.func6, Try.ntmps6
  go_wp2_with fail
  refine (unhide H1 _).mono ?_
  rintro e w1 ⟨rfl, b1⟩
  have B1 := hide b1
  have K1 := hide (box5 w1 (.int .u16 1) (.int .u64 (x : Int)) (.int .u32 (p : Int)) (.int .u64 0) (.int .u32 (q : Int)) 27)
  clear b1 H1
  go_wp2_with fail
  refine (unhide H2 _).mono ?_
  rintro e w2 ⟨rfl, b2⟩
  have K2 := hide (((unhide K1).on b2).on (below_one _ (.cells #[.int .u16 2, .int .u64 (y : Int), .int .u32 (q : Int), .int .u64 (x : Int), .int .u32 (p : Int)] 27)))
  have L2 := hide (box5 w2 (.int .u16 2) (.int .u64 (y : Int)) (.int .u32 (q : Int)) (.int .u64 (x : Int)) (.int .u32 (p : Int)) 27)
  clear b2 H2 K1
  go_wp2_with fail
  refine (unhide H3 _).mono ?_
  rintro e w3 ⟨rfl, b3⟩
  have K3 := hide (((unhide K2).on b3).on (below_one _ (.cells #[.int .u16 0, .int .u64 0, .int .u32 0, .int .u64 0, .int .u32 0] 27)))
  have L3 := hide (((unhide L2).on b3).on (below_one _ (.cells #[.int .u16 0, .int .u64 0, .int .u32 0, .int .u64 0, .int .u32 0] 27)))
  clear b3 H3 K2 L2
  go_wp2_with fail
  refine (unhide H4 _).mono ?_
  rintro e w4 ⟨rfl, b4⟩
  have K := hide (((unhide K3).on b4).on (below_one _ (.cells #[.int .u16 1, .int .u64 (x : Int), .int .u32 (p : Int), .int .u64 0, .int .u32 (p : Int)] 27)))
  have L := hide (((unhide L3).on b4).on (below_one _ (.cells #[.int .u16 1, .int .u64 (x : Int), .int .u32 (p : Int), .int .u64 0, .int .u32 (p : Int)] 27)))
  have M := hide (box5 w4 (.int .u16 1) (.int .u64 (x : Int)) (.int .u32 (p : Int)) (.int .u64 0) (.int .u32 (p : Int)) 27)
  clear b4 H4 K3 L3
  go_wp2_with fail
  refine wp_loop_rounds 4 ?_
  rw [rounds_succ]
  generalize w4.alloc (.cells #[.int .u16 1, .int .u64 (x : Int), .int .u32 (p : Int), .int .u64 0, .int .u32 (p : Int)] 27) = v0 at *
  obtain ⟨c0, c1, c2, c3, c4⟩ := (unhide K).five0 rfl rfl rfl rfl rfl
  obtain ⟨d0, d1, d2, d3, d4⟩ := (unhide L).five0 rfl rfl rfl rfl rfl
  obtain ⟨e0, e1, e2, e3, e4⟩ := (unhide M).five0 rfl rfl rfl rfl rfl
  go_wp2_with fail
  refine (unhide E1 _).mono ?_
  rintro e v1 ⟨rfl, g1⟩
  have Kr1 := hide (((unhide K).on (below_one v0 (.cells #[.int .u16 1, .int .u64 (x : Int), .int .u32 (p : Int), .int .u64 0, .int .u32 (q : Int), .int .u16 2, .int .u64 (y : Int), .int .u32 (q : Int), .int .u64 (x : Int), .int .u32 (p : Int), .int .u16 1, .int .u64 (x : Int), .int .u32 (p : Int), .int .u64 0, .int .u32 (p : Int)] 27))).on g1)
  have Lr1 := hide (((unhide L).on (below_one v0 (.cells #[.int .u16 1, .int .u64 (x : Int), .int .u32 (p : Int), .int .u64 0, .int .u32 (q : Int), .int .u16 2, .int .u64 (y : Int), .int .u32 (q : Int), .int .u64 (x : Int), .int .u32 (p : Int), .int .u16 1, .int .u64 (x : Int), .int .u32 (p : Int), .int .u64 0, .int .u32 (p : Int)] 27))).on g1)
  have Mr1 := hide (((unhide M).on (below_one v0 (.cells #[.int .u16 1, .int .u64 (x : Int), .int .u32 (p : Int), .int .u64 0, .int .u32 (q : Int), .int .u16 2, .int .u64 (y : Int), .int .u32 (q : Int), .int .u64 (x : Int), .int .u32 (p : Int), .int .u16 1, .int .u64 (x : Int), .int .u32 (p : Int), .int .u64 0, .int .u32 (p : Int)] 27))).on g1)
  clear g1 E1 K L M c0 c1 c2 c3 c4 d0 d1 d2 d3 d4 e0 e1 e2 e3 e4
  go_wp2_with fail
  rw [rounds_succ]
  obtain ⟨c0, c1, c2, c3, c4⟩ := (unhide Kr1).five0 rfl rfl rfl rfl rfl
  obtain ⟨d0, d1, d2, d3, d4⟩ := (unhide Lr1).five0 rfl rfl rfl rfl rfl
  obtain ⟨e0, e1, e2, e3, e4⟩ := (unhide Mr1).five0 rfl rfl rfl rfl rfl
  go_wp2_with fail
  refine (unhide E2 _).mono ?_
  rintro e v2 ⟨rfl, g2⟩
  have Kr2 := hide (((unhide Kr1).on (below_one v1 (.cells #[.int .u16 1, .int .u64 (x : Int), .int .u32 (p : Int), .int .u64 0, .int .u32 (q : Int), .int .u16 2, .int .u64 (y : Int), .int .u32 (q : Int), .int .u64 (x : Int), .int .u32 (p : Int), .int .u16 1, .int .u64 (x : Int), .int .u32 (p : Int), .int .u64 0, .int .u32 (p : Int)] 27))).on g2)
  have Lr2 := hide (((unhide Lr1).on (below_one v1 (.cells #[.int .u16 1, .int .u64 (x : Int), .int .u32 (p : Int), .int .u64 0, .int .u32 (q : Int), .int .u16 2, .int .u64 (y : Int), .int .u32 (q : Int), .int .u64 (x : Int), .int .u32 (p : Int), .int .u16 1, .int .u64 (x : Int), .int .u32 (p : Int), .int .u64 0, .int .u32 (p : Int)] 27))).on g2)
  have Mr2 := hide (((unhide Mr1).on (below_one v1 (.cells #[.int .u16 1, .int .u64 (x : Int), .int .u32 (p : Int), .int .u64 0, .int .u32 (q : Int), .int .u16 2, .int .u64 (y : Int), .int .u32 (q : Int), .int .u64 (x : Int), .int .u32 (p : Int), .int .u16 1, .int .u64 (x : Int), .int .u32 (p : Int), .int .u64 0, .int .u32 (p : Int)] 27))).on g2)
  clear g2 E2 Kr1 Lr1 Mr1 c0 c1 c2 c3 c4 d0 d1 d2 d3 d4 e0 e1 e2 e3 e4
  go_wp2_with fail
  rw [rounds_succ]
  obtain ⟨c0, c1, c2, c3, c4⟩ := (unhide Kr2).five0 rfl rfl rfl rfl rfl
  obtain ⟨d0, d1, d2, d3, d4⟩ := (unhide Lr2).five0 rfl rfl rfl rfl rfl
  obtain ⟨e0, e1, e2, e3, e4⟩ := (unhide Mr2).five0 rfl rfl rfl rfl rfl
  go_wp2_with fail
  refine (unhide E3 _).mono ?_
  rintro e v3 ⟨rfl, g3⟩
  have Kr3 := hide (((unhide Kr2).on (below_one v2 (.cells #[.int .u16 1, .int .u64 (x : Int), .int .u32 (p : Int), .int .u64 0, .int .u32 (q : Int), .int .u16 2, .int .u64 (y : Int), .int .u32 (q : Int), .int .u64 (x : Int), .int .u32 (p : Int), .int .u16 1, .int .u64 (x : Int), .int .u32 (p : Int), .int .u64 0, .int .u32 (p : Int)] 27))).on g3)
  have Lr3 := hide (((unhide Lr2).on (below_one v2 (.cells #[.int .u16 1, .int .u64 (x : Int), .int .u32 (p : Int), .int .u64 0, .int .u32 (q : Int), .int .u16 2, .int .u64 (y : Int), .int .u32 (q : Int), .int .u64 (x : Int), .int .u32 (p : Int), .int .u16 1, .int .u64 (x : Int), .int .u32 (p : Int), .int .u64 0, .int .u32 (p : Int)] 27))).on g3)
  have Mr3 := hide (((unhide Mr2).on (below_one v2 (.cells #[.int .u16 1, .int .u64 (x : Int), .int .u32 (p : Int), .int .u64 0, .int .u32 (q : Int), .int .u16 2, .int .u64 (y : Int), .int .u32 (q : Int), .int .u64 (x : Int), .int .u32 (p : Int), .int .u16 1, .int .u64 (x : Int), .int .u32 (p : Int), .int .u64 0, .int .u32 (p : Int)] 27))).on g3)
  clear g3 E3 Kr2 Lr2 Mr2 c0 c1 c2 c3 c4 d0 d1 d2 d3 d4 e0 e1 e2 e3 e4
  go_wp2_with fail
  rw [rounds_succ]
  obtain ⟨c0, c1, c2, c3, c4⟩ := (unhide Kr3).five0 rfl rfl rfl rfl rfl
  obtain ⟨d0, d1, d2, d3, d4⟩ := (unhide Lr3).five0 rfl rfl rfl rfl rfl
  obtain ⟨e0, e1, e2, e3, e4⟩ := (unhide Mr3).five0 rfl rfl rfl rfl rfl
  go_wp2_with fail
  refine (unhide H5 _).mono ?_
  rintro e v5 ⟨rfl, g5⟩
  go_wp2_with fail
  go_ret
  exact ⟨rfl, tr2 (tr2 (unhide B1) (unhide Kr3).bel) g5⟩

theorem arpTalk_walk (a b p q : Int) (ha : (Lit.int .u64 a).wf = true) (hb : (Lit.int .u64 b).wf = true) (hp : (Lit.int .u32 p).wf = true) (hq : (Lit.int .u32 q).wf = true) (w : World) :
    Calls Try.prog 6 #[.int .u64 a, .int .u64 b, .int .u32 p, .int .u32 q] w fun e w' => e = .returned (.bool true) ∧ Below w.heap.size w w' := by
  obtain ⟨a, rfl, la⟩ := nat64 ha
  obtain ⟨b, rfl, lb⟩ := nat64 hb
  obtain ⟨p, rfl, lp⟩ := nat32 hp
  obtain ⟨q, rfl, lq⟩ := nat32 hq
  have hx : a % 281474976710656 < 281474976710656 := Nat.mod_lt _ (by omega)
  have hy : b % 281474976710656 < 281474976710656 := Nat.mod_lt _ (by omega)
  exact talk_main a b p q (a % 281474976710656) (b % 281474976710656) w (and48 a la) (and48 b lb) _ _ _
    (fun w => encode_any 1 (a % 281474976710656) p 0 q w (by omega) (by omega) lp (by omega) lq (.inr ⟨⟨rfl, hx, by omega⟩, rfl, rfl⟩))
    (fun w => encode_any 2 (b % 281474976710656) q (a % 281474976710656) p w (by omega) (by omega) lq (by omega) lp (.inr ⟨⟨rfl, hy, hx⟩, rfl, rfl⟩))
    (fun w => encode_any 1 (a % 281474976710656) p 0 p w (by omega) (by omega) lp (by omega) lp (.inr ⟨⟨rfl, hx, by omega⟩, rfl, rfl⟩))

end Go.Proofs.Ytkmhhlimhiiciaa
