/- The contracts of cmp.Compare at int, with's closure and slices.BinarySearchFunc over parts, over the loaded program; no memory that was there has turned. Conditions: the parts rise. -/
import Derived.Test.YtekljiakofmhnaaGn1
namespace Go.Proofs.Ytekljiakofmhnaa
open Go.RowKit

theorem isnan_any (x : Int) (w : World) :
    Calls Try.prog 65 #[.int .i64 x] w fun e w' => e = .returned (.bool false) ∧ w' = w := by
  go_enter Try.func65, Try.ntmps65
  go_wp2
  go_ret
  exact ⟨by simp, rfl⟩
def cmpI (x y : Int) : Int := if x < y then -1 else if y < x then 1 else 0
set_option maxHeartbeats 1000000 in
theorem compare_any (x y : Int) (w : World) :
    Calls Try.prog 55 #[.int .i64 x, .int .i64 y] w fun e w' => e = .returned (.int .i64 (cmpI x y)) ∧ w' = w := by
  have H1 := hide (isnan_any x w)
  have H2 := hide (isnan_any y w)
  unfold cmpI
  go_enter Try.func55, Try.ntmps55
  go_wp2_with fail
  refine (unhide H1).mono ?_
  rintro e w1 ⟨rfl, rfl⟩
  go_wp2_with fail
  refine (unhide H2).mono ?_
  rintro e w1 ⟨rfl, rfl⟩
  go_wp2_with fail
  all_goals (go_ret; refine ⟨?_, rfl⟩; simp_all)
  all_goals (try omega)
set_option maxHeartbeats 1000000 in
theorem with1_any (p : Pt) (a : Int) (w : World) :
    Calls Try.prog 54 #[ptV p, .int .i64 a] w fun e w' => e = .returned (.int .i64 (cmpI p.pa a)) ∧ Below w.heap.size w w' := by
  have BEL := hide (fun o => below_one w o)
  obtain ⟨pa, pd, pm⟩ := p
  simp only
  have H := hide (fun w => compare_any pa a w)
  generalize cmpI pa a = c at *
  go_enter Try.func54, Try.ntmps54
  go_wp2_with fail
  refine (unhide H _).mono ?_
  rintro e w1 ⟨rfl, rfl⟩
  go_wp2_with fail
  go_ret
  exact ⟨rfl, unhide BEL _⟩

/-- where a place goes -/
def SrtP (l : List Pt) : Prop := ∀ (i j : Nat) (p q : Pt), i ≤ j → l[i]? = some p → l[j]? = some q → p.pa ≤ q.pa
structure IxP (l : List Pt) (a : Int) (k : Nat) : Prop where
  le : k ≤ l.length
  low : ∀ j p, j < k → l[j]? = some p → p.pa < a
  high : ∀ j p, k ≤ j → l[j]? = some p → a ≤ p.pa

set_option maxRecDepth 20000 in
set_option maxHeartbeats 4000000 in
theorem search_any (v : Value) (l : List Pt) (a : Int) (w : World) (hv : PV w v l) (hs : SrtP l) (hl : l.length ≤ 65536) :
    Calls Try.prog 53 #[v, .int .i64 a, .func (.func 54) #[] #[]] w fun e w' =>
      (∃ (k : Nat) (fb : Bool), e = .returned (.tuple #[.int .i64 (k : Int), .bool fb]) ∧ IxP l a k) ∧ Below w.heap.size w w' := by
  have B0 := hide (Below.refl w.heap.size w)
  rcases hv with ⟨rfl, rfl⟩ | ⟨g, c, rfl, h1, h2, h3, h4⟩
  · go_enter Try.func53, Try.ntmps53
    go_wp2
    go_loopw [9, 10] (fun i j wr => i = .int .i64 0 ∧ j = .int .i64 0 ∧ wr = w) (fun _ _ _ => 0)
    case atStart => exact ⟨rfl, rfl, rfl⟩
    case round =>
      obtain ⟨rfl, rfl, rfl⟩ := hrel
      go_wp2
      refine bodyPost_ret (v := .tuple #[.int .i64 0, .bool false]) (by simp [results, Try.results53, go_sem]) rfl ?_
      exact ⟨⟨0, false, rfl, ⟨Nat.le_refl _, fun j p h => absurd h (Nat.not_lt_zero _), fun j p _ h => by simp at h⟩⟩, unhide B0⟩
  · go_enter Try.func53, Try.ntmps53
    go_wp2
    go_loopw [9, 10] (fun i j wr => ∃ x y : Nat, i = .int .i64 (x : Int) ∧ j = .int .i64 (y : Int) ∧ x ≤ y ∧ y ≤ l.length ∧ (∀ t p, t < x → l[t]? = some p → p.pa < a) ∧ (∀ t p, y ≤ t → l[t]? = some p → a ≤ p.pa) ∧ Below w.heap.size w wr) (fun i j _ => (intOf j).toNat - (intOf i).toNat)
    case atStart => exact ⟨0, l.length, rfl, rfl, Nat.zero_le _, Nat.le_refl _, fun t p h => absurd h (Nat.not_lt_zero _), fun t p h1 h2 => absurd (List.getElem?_eq_some_iff.1 h2).1 (by omega), Below.refl _ _⟩
    case round =>
      obtain ⟨x, y, rfl, rfl, hxy, hy, hlo, hhi, hB⟩ := hrel
      have LO := hide hlo
      have HI := hide hhi
      have SS := hide hs
      have H4 := hide h4
      clear hlo hhi hs h4
      by_cases hlt : x < y
      · have hm : (x + y) / 2 < l.length := by omega
        obtain ⟨q, hq⟩ : ∃ q, l[(x + y) / 2]? = some q := ⟨_, List.getElem?_eq_getElem hm⟩
        obtain ⟨k0, k1, k2⟩ := unhide H4 _ q hq
        have c0 := (hB.cell (p := ⟨g, (x + y) / 2 * 3, none⟩) h3).trans k0
        have c1 := (hB.cell (p := ⟨g, (x + y) / 2 * 3 + 1, none⟩) h3).trans k1
        have c2 := (hB.cell (p := ⟨g, (x + y) / 2 * 3 + 2, none⟩) h3).trans k2
        have HW := hide (fun w => with1_any q a w)
        have HQ := hide hq
        clear k0 k1 k2 hq
        by_cases hc : q.pa < a
        · have hcm : cmpI q.pa a = -1 := by unfold cmpI; rw [if_pos hc]
          rw [hcm] at HW
          have HC := hide hc
          clear hcm hc
          go_wp2_with fail
          refine (unhide HW _).mono ?_
          rintro e w3 ⟨rfl, b3⟩
          go_wp2_with fail
          go_roundw
          case rel => exact ⟨(x + y) / 2 + 1, y, by go_num, rfl, by omega, hy, fun t p h1 h2 => by
            have := unhide SS t _ p q (by omega) h2 (unhide HQ)
            have := unhide HC
            omega, unhide HI, tr2 hB b3⟩
          case measure => simp [intOf]; omega
        · obtain ⟨z, hcm, hz⟩ : ∃ z, cmpI q.pa a = z ∧ ¬ z < 0 := ⟨_, rfl, by unfold cmpI; rw [if_neg hc]; split <;> omega⟩
          rw [hcm] at HW
          have HC := hide hc
          clear hcm hc
          go_wp2_with fail
          refine (unhide HW _).mono ?_
          rintro e w3 ⟨rfl, b3⟩
          go_wp2_with fail
          go_roundw
          case rel => exact ⟨x, (x + y) / 2, rfl, by go_num, by omega, by omega, unhide LO, fun t p h1 h2 => by
            have := unhide SS _ t q p h1 (unhide HQ) h2
            have := unhide HC
            omega, tr2 hB b3⟩
          case measure => simp [intOf]; omega
      · obtain rfl : x = y := by omega
        by_cases hn : x < l.length
        · obtain ⟨q, hq⟩ : ∃ q, l[x]? = some q := ⟨_, List.getElem?_eq_getElem hn⟩
          obtain ⟨k0, k1, k2⟩ := unhide H4 _ q hq
          have c0 := (hB.cell (p := ⟨g, x * 3, none⟩) h3).trans k0
          have c1 := (hB.cell (p := ⟨g, x * 3 + 1, none⟩) h3).trans k1
          have c2 := (hB.cell (p := ⟨g, x * 3 + 2, none⟩) h3).trans k2
          have HW := hide (fun w => with1_any q a w)
          clear k0 k1 k2 hq
          generalize cmpI q.pa a = z at *
          go_wp2_with fail
          refine (unhide HW _).mono ?_
          rintro e w3 ⟨rfl, b3⟩
          go_wp2_with fail
          refine bodyPost_ret (v := .tuple #[.int .i64 (x : Int), .bool (z == 0)]) (by simp [results, Try.results53, go_sem]) rfl ?_
          exact ⟨⟨x, _, rfl, ⟨hy, unhide LO, unhide HI⟩⟩, tr2 hB b3⟩
        · go_wp2_with fail
          refine bodyPost_ret (v := .tuple #[.int .i64 (x : Int), .bool false]) (by simp [results, Try.results53, go_sem]) rfl ?_
          exact ⟨⟨x, _, rfl, ⟨hy, unhide LO, unhide HI⟩⟩, hB⟩

end Go.Proofs.Ytekljiakofmhnaa
