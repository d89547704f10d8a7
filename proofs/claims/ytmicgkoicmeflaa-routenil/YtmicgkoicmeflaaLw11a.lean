/- The statement RouteNil of layer 11, as a contract over the loaded program. -/
import Derived.Test.YtmicgkoicmeflaaEq11
namespace Go.Proofs.Ytmicgkoicmeflaa
open Go.RowKit

set_option maxRecDepth 100000 in
set_option maxHeartbeats 1000000 in
theorem routeNil_walk (v : Value) (r : Rt) (ip : Int) (w : World) (hv : IsRt v r) (_ : (Lit.int .u32 ip).wf = true) :
    Calls Try.prog 7 #[v, .int .u32 ip] w fun e w' => e = .returned (.bool true) ∧ Below w.heap.size w w' := by
  obtain ⟨rfl, hr⟩ := hv
  have B0 := hide (below_one w (.cells (rtCs r) 32))
  have E0 := heap_alloc_new w (.cells (rtCs r) 32)
  have HF := hide (fun w => find_nil w ip)
  have HA := hide (fun w => add_nil w r)
  have HD := hide (fun w => drop_nil w (r.n : Int) r.b)
  have HL := hide all_nil
  have HX := hide alive_any
  have eq := eql_z
  go_enter Try.func7, Try.ntmps7
  go_wp2_with fail
  refine (unhide HF _).mono ?_
  rintro e w1 ⟨rfl, b1⟩
  have z1 := heap_alloc_new w1 (.cells zCs 32)
  have b2 := tr2 b1 (below_one w1 (.cells zCs 32))
  have c0 := below_cell (cell_of_row _ _ 0 _ _ _ E0) b2
  have c1 := below_cell (cell_of_row _ _ 1 _ _ _ E0) b2
  have c2 := below_cell (cell_of_row _ _ 2 _ _ _ E0) b2
  have c3 := below_cell (cell_of_row _ _ 3 _ _ _ E0) b2
  have c4 := below_cell (cell_of_row _ _ 4 _ _ _ E0) b2
  have B2 := hide (tr2 (unhide B0) b2)
  go_wp2_with fail
  refine (unhide HA _).mono ?_
  rintro e w3 ⟨rfl, b3⟩
  have d0 := below_cell c0 b3
  have d1 := below_cell c1 b3
  have y0 := below_cell (cell_of_row _ _ 0 _ _ _ z1) b3
  have y1 := below_cell (cell_of_row _ _ 1 _ _ _ z1) b3
  have y2 := below_cell (cell_of_row _ _ 2 _ _ _ z1) b3
  have y3 := below_cell (cell_of_row _ _ 3 _ _ _ z1) b3
  have y4 := below_cell (cell_of_row _ _ 4 _ _ _ z1) b3
  have B3 := hide (tr2 (unhide B2) b3)
  clear b1 b2 b3 c0 c1 c2 c3 c4 E0 z1
  go_wp2_with fail
  refine (unhide HD _).mono ?_
  rintro e w4 ⟨rfl, rfl⟩
  go_wp2_with fail
  refine (unhide HL _).mono ?_
  rintro e w5 ⟨rfl, rfl⟩
  go_wp2_with fail
  refine (unhide HX _).mono ?_
  rintro e w6 ⟨rfl, b6⟩
  have B6 := hide (tr2 (unhide B3) b6)
  clear b6 d0 d1 y0 y1 y2 y3 y4
  go_wp2
  go_ret
  exact ⟨rfl, unhide B6⟩
end Go.Proofs.Ytmicgkoicmeflaa
