/- What Add of the document's meter answers and leaves. -/
import Derived.Test.YtfbbdfeigenodaaRf0
import Derived.Laws.AppendOwnNone
namespace Go.Proofs.Ytfbbdfeigenodaa
open Go.RowKit Go.Maps
attribute [local go_sem ↓] Go.wp_at_zero Go.wp_at_succ

set_option maxRecDepth 100000 in
set_option maxHeartbeats 1000000 in
theorem radd_arg (r : Nat) (s : ByteArray) (n m : Int) (w : World) (hbad : ¬ (mayL s.data.toList = true ∧ (0 ≤ n ∧ n ≤ 4503599627370496) ∧ (0 ≤ m ∧ m ≤ 4503599627370496))) :
    Calls Try.prog 23 #[.pointer (some ⟨r, 0, none⟩), .string s, .int .i64 n, .int .i64 m] w fun e w' => e = .returned (.int .i64 2) ∧ w' = w := by
  have HM := may_any s w
  by_cases hm : mayL s.data.toList = true
  · rw [hm] at HM
    have HM := hide HM
    by_cases h1 : n < 0
    · clear hbad hm
      go_enter Try.func23, Try.ntmps23
      go_wp2_with fail
      refine (unhide HM).mono ?_
      rintro e w1 ⟨rfl, rfl⟩
      go_wp2
      go_ret
      exact ⟨rfl, rfl⟩
    · by_cases h2 : 4503599627370496 < n
      · clear hbad hm
        go_enter Try.func23, Try.ntmps23
        go_wp2_with fail
        refine (unhide HM).mono ?_
        rintro e w1 ⟨rfl, rfl⟩
        go_wp2
        go_ret
        exact ⟨rfl, rfl⟩
      · by_cases h3 : m < 0
        · clear hbad hm
          go_enter Try.func23, Try.ntmps23
          go_wp2_with fail
          refine (unhide HM).mono ?_
          rintro e w1 ⟨rfl, rfl⟩
          go_wp2
          go_ret
          exact ⟨rfl, rfl⟩
        · have h4 : 4503599627370496 < m := Classical.byContradiction fun g => hbad ⟨hm, by omega, by omega⟩
          clear hbad hm
          go_enter Try.func23, Try.ntmps23
          go_wp2_with fail
          refine (unhide HM).mono ?_
          rintro e w1 ⟨rfl, rfl⟩
          go_wp2
          go_ret
          exact ⟨rfl, rfl⟩
  · rw [Bool.eq_false_iff.2 hm] at HM
    have HM := hide HM
    clear hbad hm
    go_enter Try.func23, Try.ntmps23
    go_wp2_with fail
    refine (unhide HM).mono ?_
    rintro e w1 ⟨rfl, rfl⟩
    go_wp2
    go_ret
    exact ⟨rfl, rfl⟩

set_option maxRecDepth 100000 in
set_option maxHeartbeats 1000000 in
theorem radd_full (r : Nat) (v : Value) (L : List Ent) (s : ByteArray) (n m : Nat) (w : World) (h : RM w r v L) (hm : mayL s.data.toList = true) (hn0 : n ≤ 4503599627370496) (hm0 : m ≤ 4503599627370496)
    (hl : lookE s.data.toList L = none) (hf : 64 = L.length) :
    Calls Try.prog 23 #[.pointer (some ⟨r, 0, none⟩), .string s, .int .i64 (n : Int), .int .i64 (m : Int)] w fun e w' => e = .returned (.int .i64 6) ∧ w' = w := by
  have HM := may_any s w
  rw [hm] at HM
  have HM := hide HM
  have HA := hide (at_none r v L s w h hl (by omega))
  have hc := h.cell
  have h1 : ¬ ((n : Int) < 0) := by omega
  have h2 : ¬ (4503599627370496 < (n : Int)) := by omega
  have h3 : ¬ ((m : Int) < 0) := by omega
  have h4 : ¬ (4503599627370496 < (m : Int)) := by omega
  obtain ⟨p', c', rfl⟩ : ∃ p c, v = .slice p L.length c := by
    rcases h.form with ⟨rfl, rfl⟩ | ⟨g, c, rfl, _⟩
    · exact ⟨_, _, rfl⟩
    · exact ⟨_, _, rfl⟩
  rw [← hf] at hc
  clear h hl hm hf hn0 hm0
  go_enter Try.func23, Try.ntmps23
  go_wp2_with fail
  refine (unhide HM).mono ?_
  rintro e w1 ⟨rfl, rfl⟩
  go_wp2_with fail
  refine (unhide HA).mono ?_
  rintro e w1 ⟨rfl, rfl⟩
  go_wp2
  go_ret
  exact ⟨rfl, rfl⟩

end Go.Proofs.Ytfbbdfeigenodaa
