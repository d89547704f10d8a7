/- heavy of the laws. -/
import Derived.Test.YtfbbdfeigenodaaStp
namespace Go.Proofs.Ytfbbdfeigenodaa
open Go.RowKit

def HeavyPost (l : List Stp) (w : World) (e : Ending) (w' : World) : Prop := ∃ b, e = .returned (.bool b) ∧ w' = w ∧ (b = false → l.length ≤ 200)

theorem wf64 {x : Int} (h : (Lit.int .i64 x).wf = true) : -9223372036854775808 ≤ x ∧ x ≤ 9223372036854775807 := bounds_i64 h

set_option maxRecDepth 100000 in
set_option maxHeartbeats 1000000 in
theorem heavy_any (v : Value) (l : List Stp) (w : World) (h : IsSteps w v l) :
    Calls Try.prog 7 #[v] w (HeavyPost l w) := by
  obtain ⟨hf, hmax, hok⟩ := h
  rcases hf with ⟨⟨a, c, rfl⟩, rfl⟩ | ⟨b, off, c, rfl, hnc, hb, hcell⟩
  · go_enter Try.func7, Try.ntmps7
    go_wp2
    go_loop [3, 4] (fun n i => n = .int .i64 0 ∧ i = .int .i64 0) (fun _ _ => 0)
    case atStart => exact ⟨rfl, rfl⟩
    case round =>
      obtain ⟨rfl, rfl⟩ := hrel
      go_wp2
      go_ret
      exact ⟨false, rfl, rfl, fun _ => by simp⟩
  · have HC := hide hcell
    have HO := hide hok
    have hmax' : (l.length : Int) ≤ 9223372036854775807 := by unfold maxLen at hmax; omega
    clear hcell hok
    go_enter Try.func7, Try.ntmps7
    go_wp2
    go_loop [3, 4] (fun n i => ∃ (t : Int) (k : Nat), -9223372036854775808 ≤ t ∧ t ≤ 9223372036854775807 ∧ n = .int .i64 t ∧ k ≤ l.length ∧ k ≤ 500 ∧ i = .int .i64 (k : Int)) (fun _ i => 500 - (intOf i).toNat)
    case atStart => exact ⟨0, 0, by omega, by omega, rfl, Nat.zero_le _, Nat.zero_le _, rfl⟩
    case round =>
      obtain ⟨t, k, ht0, ht1, rfl, hk, hk5, rfl⟩ := hrel
      by_cases hlt : k < l.length ∧ k < 500
      · obtain ⟨x, hx⟩ : ∃ x, l[k]? = some x := ⟨l[k], List.getElem?_eq_getElem hlt.1⟩
        obtain ⟨c0, c1, c2⟩ := unhide HC k x hx
        have hi1 : (0 : Int) ≤ (k : Int) := by omega
        have hi2 : (k : Int) < (l.length : Int) := by omega
        have hi3 : (l.length : Int) ≤ (c : Int) := by omega
        have hi5 : (k : Int) < 500 := by omega
        have hxs := ((unhide HO) x (List.mem_of_getElem? hx)).s
        clear hx
        go_wp2
        go_round
        case rel => exact ⟨_, k + 1, (wf64 (wrap64_wf _)).1, (wf64 (wrap64_wf _)).2, rfl, by omega, by omega, by go_num⟩
        case measure => simp [intOf]; omega
      · have hout : ∀ (P : Prop), (¬ (k : Int) < (l.length : Int) → P) → ((k : Int) < (l.length : Int) → ¬ (k : Int) < 500 → P) → P := fun P g1 g2 => by
          by_cases g : (k : Int) < (l.length : Int)
          · exact g2 g (by omega)
          · exact g1 g
        refine hout _ (fun g1 => ?_) (fun g1 g2 => ?_)
        · by_cases g3 : (200 : Int) < (l.length : Int)
          · go_wp2
            go_ret
            exact ⟨true, rfl, rfl, fun h => by cases h⟩
          · by_cases g4 : (8192 : Int) < t
            · go_wp2
              go_ret
              exact ⟨true, rfl, rfl, fun h => by cases h⟩
            · go_wp2
              go_ret
              exact ⟨false, rfl, rfl, fun _ => by omega⟩
        · have g3 : (200 : Int) < (l.length : Int) := by omega
          go_wp2
          go_ret
          exact ⟨true, rfl, rfl, fun h => by cases h⟩

end Go.Proofs.Ytfbbdfeigenodaa
