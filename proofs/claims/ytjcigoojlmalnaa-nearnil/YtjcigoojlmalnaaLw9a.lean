/- The statement NearNil of layer 9, as a contract over the loaded program. -/
import Derived.Test.YtjcigoojlmalnaaAl9
namespace Go.Proofs.Ytjcigoojlmalnaa
open Go.RowKit Go.Maps

set_option maxRecDepth 100000 in
theorem nearNil_walk (ip now : Int) (_ : (Lit.int .u32 ip).wf = true) (_ : (Lit.int .i64 now).wf = true) (w : World) :
    Calls Try.prog 5 #[.int .u32 ip, .int .i64 now] w fun e w' => e = .returned (.bool true) ∧ Below w.heap.size w w' := by
  have HF := hide (find_nil ip 1 now)
  have HH := hide (hear_nil ip 1 now true)
  have HT := hide (tick_nil now)
  have HX := hide next_nil
  have HS := hide (state_nil ip)
  have HW := hide waits_nil
  have HA := hide alive_any
  go_enter Try.func5, Try.ntmps5
  go_wp2_with fail
  refine (unhide HF _).mono ?_
  rintro e w1 ⟨rfl, rfl⟩
  go_wp2_with fail
  refine (unhide HH _).mono ?_
  rintro e w2 ⟨rfl, rfl⟩
  go_wp2_with fail
  refine (unhide HT _).mono ?_
  rintro e w3 ⟨rfl, hB⟩
  go_wp2_with fail
  refine (unhide HX _).mono ?_
  rintro e w4 ⟨rfl, rfl⟩
  go_wp2_with fail
  refine (unhide HS _).mono ?_
  rintro e w5 ⟨rfl, rfl⟩
  go_wp2_with fail
  refine (unhide HW _).mono ?_
  rintro e w6 ⟨rfl, rfl⟩
  go_wp2_with fail
  refine (unhide HA _).mono ?_
  rintro e w7 ⟨rfl, hB2⟩
  go_wp2
  go_ret
  exact ⟨rfl, tr2 hB hB2⟩
end Go.Proofs.Ytjcigoojlmalnaa
