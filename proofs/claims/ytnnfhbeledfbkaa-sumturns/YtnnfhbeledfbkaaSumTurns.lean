/- The walk of the statement SumTurns, over the loaded program, out of the contracts. No conditions but the numbers' bounds. -/
import Derived.Test.YtnnfhbeledfbkaaAlive02
namespace Go.Proofs.Ytnnfhbeledfbkaa
open Go.RowKit

theorem turn_mod (c a b : Nat) (hc : c < 65536) (ha : a < 65536) : (turn c a b + b) % 65535 = (c + a) % 65535 := by
  have h1 := red_mod ((65535 - c) + (65535 - a) + b)
  have h2 := red_le ((65535 - c) + (65535 - a) + b)
  unfold turn
  omega
theorem same_mod {p q : Nat} (hp : p ≤ 65535) (hq : q ≤ 65535) (h : p % 65535 = q % 65535) : p = q ∨ (p ≠ q ∧ p % 65535 = 0 ∧ q % 65535 = 0) := by omega
theorem turn_back (c a b : Nat) (hc : c < 65536) (ha : a < 65536) (hb : b < 65536) : turn (turn c a b) b a = c ∨ (turn (turn c a b) b a ≠ c ∧ turn (turn c a b) b a % 65535 = 0 ∧ c % 65535 = 0) := by
  have h1 := turn_mod c a b hc ha
  have h2 := turn_mod (turn c a b) b a (by have := turn_le c a b; omega) hb
  exact same_mod (turn_le _ _ _) (by omega) (by omega)
theorem turn_order (c a b x y : Nat) (hc : c < 65536) (ha : a < 65536) (hx : x < 65536) :
    turn (turn c a b) x y = turn (turn c x y) a b ∨ (turn (turn c a b) x y ≠ turn (turn c x y) a b ∧ turn (turn c a b) x y % 65535 = 0 ∧ turn (turn c x y) a b % 65535 = 0) := by
  have h1 := turn_mod c a b hc ha
  have h2 := turn_mod (turn c a b) x y (by have := turn_le c a b; omega) hx
  have h3 := turn_mod c x y hc hx
  have h4 := turn_mod (turn c x y) a b (by have := turn_le c x y; omega) ha
  exact same_mod (turn_le _ _ _) (turn_le _ _ _) (by omega)

set_option maxRecDepth 100000 in
set_option maxHeartbeats 4000000 in
theorem turns_nat (c a b x y : Nat) (hc : c < 65536) (ha : a < 65536) (hb : b < 65536) (hx : x < 65536) (hy : y < 65536) (w : World) :
    Calls Try.prog 6 #[.int .u16 (c : Int), .int .u16 (a : Int), .int .u16 (b : Int), .int .u16 (x : Int), .int .u16 (y : Int)] w fun e w' => e = .returned (.bool true) ∧ Below w.heap.size w w' := by
  have hback := turn_back c a b hc ha hb
  have horder := turn_order c a b x y hc ha hx
  have l1 := turn_le c a b
  have l2 := turn_le c x y
  have l3 := turn_le (turn c a b) b a
  have l4 := turn_le (turn c a b) x y
  have l5 := turn_le (turn c x y) a b
  have H1 := hide (fun w => turn_any c a b w hc ha hb)
  have H2 := hide (fun w => turn_any (turn c a b) b a w (by omega) hb ha)
  have H3 := hide (fun w => turn_any (turn c a b) x y w (by omega) hx hy)
  have H4 := hide (fun w => turn_any c x y w hc hx hy)
  have H5 := hide (fun w => turn_any (turn c x y) a b w (by omega) ha hb)
  have HA := hide alive_any
  generalize turn (turn c a b) b a = u at *
  generalize turn (turn c a b) x y = p at *
  generalize turn (turn c x y) a b = q at *
  generalize turn c a b = t at *
  generalize turn c x y = s at *
  rcases hback with rfl | ⟨n1, m1, m2⟩
  · rcases horder with rfl | ⟨n2, m3, m4⟩
    · go_enter Try.func6, Try.ntmps6
      go_wp2_with fail
      refine (unhide H1 _).mono ?_
      rintro e w1 ⟨rfl, hb1⟩
      go_wp2_with fail
      refine (unhide H2 _).mono ?_
      rintro e w2 ⟨rfl, hb2⟩
      go_wp2_with fail
      refine (unhide H1 _).mono ?_
      rintro e w3 ⟨rfl, hb3⟩
      go_wp2_with fail
      refine (unhide H3 _).mono ?_
      rintro e w4 ⟨rfl, hb4⟩
      go_wp2_with fail
      refine (unhide H4 _).mono ?_
      rintro e w5 ⟨rfl, hb5⟩
      go_wp2_with fail
      refine (unhide H5 _).mono ?_
      rintro e w6 ⟨rfl, hb6⟩
      go_wp2_with fail
      refine (unhide HA _).mono ?_
      rintro e w7 ⟨rfl, hb7⟩
      go_wp2
      go_ret
      exact ⟨rfl, tr2 hb1 (tr2 hb2 (tr2 hb3 (tr2 hb4 (tr2 hb5 (tr2 hb6 hb7)))))⟩
    · have g4 : ((p : Int) == (q : Int)) = false := beq_false_of_ne (by omega)
      have g5 : (p : Int) % 65535 = 0 := by omega
      have g6 : (q : Int) % 65535 = 0 := by omega
      clear m3 m4
      go_enter Try.func6, Try.ntmps6
      go_wp2_with fail
      refine (unhide H1 _).mono ?_
      rintro e w1 ⟨rfl, hb1⟩
      go_wp2_with fail
      refine (unhide H2 _).mono ?_
      rintro e w2 ⟨rfl, hb2⟩
      go_wp2_with fail
      refine (unhide H1 _).mono ?_
      rintro e w3 ⟨rfl, hb3⟩
      go_wp2_with fail
      refine (unhide H3 _).mono ?_
      rintro e w4 ⟨rfl, hb4⟩
      go_wp2_with fail
      refine (unhide H4 _).mono ?_
      rintro e w5 ⟨rfl, hb5⟩
      go_wp2_with fail
      refine (unhide H5 _).mono ?_
      rintro e w6 ⟨rfl, hb6⟩
      go_wp2_with fail
      refine (unhide HA _).mono ?_
      rintro e w7 ⟨rfl, hb7⟩
      go_wp2
      go_ret
      exact ⟨rfl, tr2 hb1 (tr2 hb2 (tr2 hb3 (tr2 hb4 (tr2 hb5 (tr2 hb6 hb7)))))⟩
  · have g1 : ((u : Int) == (c : Int)) = false := beq_false_of_ne (by omega)
    have g2 : (u : Int) % 65535 = 0 := by omega
    have g3 : (c : Int) % 65535 = 0 := by omega
    clear m1 m2
    rcases horder with rfl | ⟨n2, m3, m4⟩
    · go_enter Try.func6, Try.ntmps6
      go_wp2_with fail
      refine (unhide H1 _).mono ?_
      rintro e w1 ⟨rfl, hb1⟩
      go_wp2_with fail
      refine (unhide H2 _).mono ?_
      rintro e w2 ⟨rfl, hb2⟩
      go_wp2_with fail
      refine (unhide H1 _).mono ?_
      rintro e w3 ⟨rfl, hb3⟩
      go_wp2_with fail
      refine (unhide H3 _).mono ?_
      rintro e w4 ⟨rfl, hb4⟩
      go_wp2_with fail
      refine (unhide H4 _).mono ?_
      rintro e w5 ⟨rfl, hb5⟩
      go_wp2_with fail
      refine (unhide H5 _).mono ?_
      rintro e w6 ⟨rfl, hb6⟩
      go_wp2_with fail
      refine (unhide HA _).mono ?_
      rintro e w7 ⟨rfl, hb7⟩
      go_wp2
      go_ret
      exact ⟨rfl, tr2 hb1 (tr2 hb2 (tr2 hb3 (tr2 hb4 (tr2 hb5 (tr2 hb6 hb7)))))⟩
    · have g4 : ((p : Int) == (q : Int)) = false := beq_false_of_ne (by omega)
      have g5 : (p : Int) % 65535 = 0 := by omega
      have g6 : (q : Int) % 65535 = 0 := by omega
      clear m3 m4
      go_enter Try.func6, Try.ntmps6
      go_wp2_with fail
      refine (unhide H1 _).mono ?_
      rintro e w1 ⟨rfl, hb1⟩
      go_wp2_with fail
      refine (unhide H2 _).mono ?_
      rintro e w2 ⟨rfl, hb2⟩
      go_wp2_with fail
      refine (unhide H1 _).mono ?_
      rintro e w3 ⟨rfl, hb3⟩
      go_wp2_with fail
      refine (unhide H3 _).mono ?_
      rintro e w4 ⟨rfl, hb4⟩
      go_wp2_with fail
      refine (unhide H4 _).mono ?_
      rintro e w5 ⟨rfl, hb5⟩
      go_wp2_with fail
      refine (unhide H5 _).mono ?_
      rintro e w6 ⟨rfl, hb6⟩
      go_wp2_with fail
      refine (unhide HA _).mono ?_
      rintro e w7 ⟨rfl, hb7⟩
      go_wp2
      go_ret
      exact ⟨rfl, tr2 hb1 (tr2 hb2 (tr2 hb3 (tr2 hb4 (tr2 hb5 (tr2 hb6 hb7)))))⟩

theorem sumTurns_walk (c a b x y : Int) (hc : (Lit.int .u16 c).wf = true) (ha : (Lit.int .u16 a).wf = true) (hb : (Lit.int .u16 b).wf = true) (hx : (Lit.int .u16 x).wf = true) (hy : (Lit.int .u16 y).wf = true) (w : World) :
    Calls Try.prog 6 #[.int .u16 c, .int .u16 a, .int .u16 b, .int .u16 x, .int .u16 y] w fun e w' => e = .returned (.bool true) ∧ Below w.heap.size w w' := by
  obtain ⟨c, rfl, h1⟩ := nat16 hc
  obtain ⟨a, rfl, h2⟩ := nat16 ha
  obtain ⟨b, rfl, h3⟩ := nat16 hb
  obtain ⟨x, rfl, h4⟩ := nat16 hx
  obtain ⟨y, rfl, h5⟩ := nat16 hy
  exact turns_nat c a b x y h1 h2 h3 h4 h5 w

end Go.Proofs.Ytnnfhbeledfbkaa
