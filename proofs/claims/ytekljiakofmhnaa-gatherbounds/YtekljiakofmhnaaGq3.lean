/- The contracts of Gather's isMade, counted, Held, Len, Next, of mayBe, New and the law's Conf, over the loaded program. Conditions: numbers in their kinds' bounds. -/
import Derived.Test.YtekljiakofmhnaaGq2
namespace Go.Proofs.Ytekljiakofmhnaa
open Go.RowKit

theorem made_ok (p b : Nat) (w : World) (h : w.cell? ⟨p, 4, none⟩ = some (.map (some b))) :
    Calls Try.prog 17 #[.pointer (some ⟨p, 0, none⟩)] w fun e w' => e = .returned (.bool true) ∧ w' = w := by
  have hq := run_neq_map_nil (P := Try.prog) w 49 56 59 (some b) Try.underlying49
  go_enter Try.func17, Try.ntmps17
  go_wp2
  go_ret
  exact ⟨rfl, rfl⟩
theorem made_nil (w : World) :
    Calls Try.prog 17 #[.pointer none] w fun e w' => e = .returned (.bool false) ∧ w' = w := by
  go_enter Try.func17, Try.ntmps17
  go_wp2
  go_ret
  exact ⟨rfl, rfl⟩
/-- the time that one counts as -/
def cntT (last now : Int) : Int := max last (min now 17592186044416)
set_option maxHeartbeats 400000 in
theorem counted_any (p : Nat) (last now : Int) (w : World) (h : w.cell? ⟨p, 7, none⟩ = some (.int .i64 last)) :
    Calls Try.prog 18 #[.pointer (some ⟨p, 0, none⟩), .int .i64 now] w fun e w' => e = .returned (.int .i64 (cntT last now)) ∧ w' = w := by
  unfold cntT
  go_enter Try.func18, Try.ntmps18
  go_wp2
  all_goals (go_ret; refine ⟨?_, rfl⟩; try rfl)
  all_goals (simp_all <;> omega)
theorem held_any (p b : Nat) (hd : Int) (w : World) (h : w.cell? ⟨p, 4, none⟩ = some (.map (some b))) (h6 : w.cell? ⟨p, 6, none⟩ = some (.int .i64 hd)) :
    Calls Try.prog 13 #[.pointer (some ⟨p, 0, none⟩)] w fun e w' => e = .returned (.int .i64 hd) ∧ w' = w := by
  have H := hide (made_ok p b w h)
  go_enter Try.func13, Try.ntmps13
  go_wp2_with fail
  refine (unhide H).mono ?_
  rintro e w1 ⟨rfl, rfl⟩
  go_wp2_with fail
  go_ret
  exact ⟨rfl, rfl⟩
theorem held_nil (w : World) :
    Calls Try.prog 13 #[.pointer none] w fun e w' => e = .returned (.int .i64 0) ∧ w' = w := by
  have H := hide (made_nil w)
  go_enter Try.func13, Try.ntmps13
  go_wp2_with fail
  refine (unhide H).mono ?_
  rintro e w1 ⟨rfl, rfl⟩
  go_wp2_with fail
  go_ret
  exact ⟨rfl, rfl⟩
theorem len_nil (w : World) :
    Calls Try.prog 12 #[.pointer none] w fun e w' => e = .returned (.int .i64 0) ∧ w' = w := by
  have H := hide (made_nil w)
  go_enter Try.func12, Try.ntmps12
  go_wp2_with fail
  refine (unhide H).mono ?_
  rintro e w1 ⟨rfl, rfl⟩
  go_wp2_with fail
  go_ret
  exact ⟨rfl, rfl⟩
theorem len_any (p b : Nat) (L : List En) (w : World) (h : w.cell? ⟨p, 4, none⟩ = some (.map (some b))) (hm : MapIs w b L) :
    Calls Try.prog 12 #[.pointer (some ⟨p, 0, none⟩)] w fun e w' => e = .returned (.int .i64 (L.length : Int)) ∧ w' = w := by
  have H := hide (made_ok p b w h)
  have hl := hm.len
  clear hm
  go_enter Try.func12, Try.ntmps12
  go_wp2_with fail
  refine (unhide H).mono ?_
  rintro e w1 ⟨rfl, rfl⟩
  go_wp2_with fail
  go_ret
  exact ⟨rfl, rfl⟩
theorem next_nil (w : World) :
    Calls Try.prog 9 #[.pointer none] w fun e w' => e = .returned (.tuple #[.int .i64 0, .bool false]) ∧ w' = w := by
  have H := hide (made_nil w)
  go_enter Try.func9, Try.ntmps9
  go_wp2_with fail
  refine (unhide H).mono ?_
  rintro e w1 ⟨rfl, rfl⟩
  go_wp2_with fail
  refine bodyPost_ret (v := .tuple #[.int .i64 0, .bool false]) (by simp [results, Try.results9, go_sem]) rfl ⟨rfl, rfl⟩

/-- a conf as it came -/
structure Cv where
  most : Int
  byt : Int
  prt : Int
  tm : Int
abbrev cvL (c : Cv) : Array Value := #[.int .i64 c.most, .int .i64 c.byt, .int .i64 c.prt, .int .i64 c.tm]
def Cv.May (c : Cv) : Prop := 1 ≤ c.most ∧ c.most ≤ 256 ∧ 1 ≤ c.byt ∧ c.byt ≤ 67108864 ∧ 1 ≤ c.prt ∧ c.prt ≤ 256 ∧ 1 ≤ c.tm ∧ c.tm ≤ 1099511627776
instance (c : Cv) : Decidable c.May := by unfold Cv.May; infer_instance
set_option maxHeartbeats 1000000 in
theorem maybe_any (c : Cv) (w : World) :
    Calls Try.prog 15 #[.agg (cvL c)] w fun e w' => e = .returned (.bool (decide c.May)) ∧ Below w.heap.size w w' := by
  have B0 := hide (below_one w (.cells (cvL c) 23))
  obtain ⟨r, hr, e⟩ := hidec c.May
  rw [← e]
  clear e
  obtain ⟨a, b, d, t⟩ := c
  simp only [cvL] at *
  go_enter Try.func15, Try.ntmps15
  go_wp2
  all_goals (go_ret; refine ⟨ret_of hr (by unfold Cv.May; simp <;> omega), unhide B0⟩)

end Go.Proofs.Ytekljiakofmhnaa
