/- The statement SteerTables's walk, put together. -/
import Derived.Test.YtkhkobdbbffkbaaLb
namespace Go.Proofs.Ytkhkobdbbffkbaa
open Go.RowKit

set_option maxRecDepth 100000 in
set_option maxHeartbeats 1000000 in
theorem tables_out (z : Int) (x1 x2 : Option Addr) (n1 c1 n2 c2 : Nat) (h : Int) (w : World) (hn : 1024 < n1 ∨ 1024 < n2) :
    Calls Try.prog 6 #[.int .i64 z, .slice x1 n1 c1, .slice x2 n2 c2, .int .u32 h] w fun e w' => e = .returned (.bool true) ∧ Below w.heap.size w w' := by
  have HW := hide works_any
  by_cases h1 : 1024 < n1
  · go_enter Try.func6, Try.ntmps6
    go_wp2_with fail
    refine (unhide HW _).mono ?_
    rintro e w4 ⟨rfl, b4⟩
    go_wp2
    go_ret
    exact ⟨rfl, b4⟩
  · have h2 : 1024 < n2 := by omega
    go_enter Try.func6, Try.ntmps6
    go_wp2_with fail
    refine (unhide HW _).mono ?_
    rintro e w4 ⟨rfl, b4⟩
    go_wp2
    go_ret
    exact ⟨rfl, b4⟩

theorem came_of {w : World} {v : Value} {l : List Int} (hv : IsNums .i64 w v l) : ∃ x c, v = .slice x l.length c ∧ Came w x l.length (fun j => l.getD j 0) := by
  obtain ⟨hs, _, _⟩ := hv
  rcases hs with ⟨⟨a, c, rfl⟩, rfl⟩ | ⟨b, off, c, rfl, _, hlt, hc⟩
  · exact ⟨a, c, rfl, fun j hj => absurd hj (Nat.not_lt_zero j)⟩
  · exact ⟨_, c, rfl, fun j hj => ⟨b, off, rfl, hlt, hc j hj⟩⟩

theorem steerTables_walk (z : Int) (v1 : Value) (l1 : List Int) (v2 : Value) (l2 : List Int) (h' : Int) (w : World) (_ : (Lit.int .i64 z).wf = true) (hv1 : IsNums .i64 w v1 l1) (hv2 : IsNums .i64 w v2 l2) (wh : (Lit.int .u32 h').wf = true) :
    Calls Try.prog 6 #[.int .i64 z, v1, v2, .int .u32 h'] w fun e w' => e = .returned (.bool true) ∧ Below w.heap.size w w' := by
  obtain ⟨x1, c1, rfl, hT⟩ := came_of hv1
  obtain ⟨x2, c2, rfl, hC⟩ := came_of hv2
  obtain ⟨h, rfl, hh⟩ := nat32 wh
  by_cases ho : 1024 < l1.length ∨ 1024 < l2.length
  · exact tables_out z x1 x2 _ c1 _ c2 _ w ho
  have hl1 : l1.length ≤ 1024 := by omega
  have hl2 : l2.length ≤ 1024 := by omega
  clear ho hv1 hv2 wh
  generalize l1.length = n1 at *
  generalize l2.length = n2 at *
  by_cases ht : n1 = 128 <;> by_cases hc : n2 = 0
  · by_cases h1 : z < 1
    · exact tables_atz z x1 x2 n1 c1 n2 c2 h _ _ w h1 ht hc hh hT hC
    · by_cases h2 : 8 < z
      · exact tables_btz z x1 x2 n1 c1 n2 c2 h _ _ w h2 ht hc hh hT hC
      · obtain ⟨k, rfl⟩ : ∃ k : Nat, z = k := ⟨z.toNat, by omega⟩
        exact tables_itz k x1 x2 n1 c1 n2 c2 h _ _ w (by omega) (by omega) ht hc hh hT hC
  · by_cases h1 : z < 1
    · exact tables_atc z x1 x2 n1 c1 n2 c2 h _ _ w h1 ht hl2 (by omega) hh hT hC
    · by_cases h2 : 8 < z
      · exact tables_btc z x1 x2 n1 c1 n2 c2 h _ _ w h2 ht hl2 (by omega) hh hT hC
      · obtain ⟨k, rfl⟩ : ∃ k : Nat, z = k := ⟨z.toNat, by omega⟩
        exact tables_itc k x1 x2 n1 c1 n2 c2 h _ _ w (by omega) (by omega) ht hl2 (by omega) hh hT hC
  · by_cases h1 : z < 1
    · exact tables_anz z x1 x2 n1 c1 n2 c2 h _ _ w h1 ht hl1 hc hT hC
    · by_cases h2 : 8 < z
      · exact tables_bnz z x1 x2 n1 c1 n2 c2 h _ _ w h2 ht hl1 hc hT hC
      · obtain ⟨k, rfl⟩ : ∃ k : Nat, z = k := ⟨z.toNat, by omega⟩
        exact tables_inz k x1 x2 n1 c1 n2 c2 h _ _ w (by omega) (by omega) ht hl1 hc hT hC
  · by_cases h1 : z < 1
    · exact tables_anc z x1 x2 n1 c1 n2 c2 h _ _ w h1 ht hl1 hl2 (by omega) hh hT hC
    · by_cases h2 : 8 < z
      · exact tables_bnc z x1 x2 n1 c1 n2 c2 h _ _ w h2 ht hl1 hl2 (by omega) hh hT hC
      · obtain ⟨k, rfl⟩ : ∃ k : Nat, z = k := ⟨z.toNat, by omega⟩
        exact tables_inc k x1 x2 n1 c1 n2 c2 h _ _ w (by omega) (by omega) ht hl1 hl2 (by omega) hh hT hC

end Go.Proofs.Ytkhkobdbbffkbaa
