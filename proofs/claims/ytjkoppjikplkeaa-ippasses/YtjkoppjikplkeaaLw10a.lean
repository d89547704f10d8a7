/- The statement IpPasses of layer 10, as a contract over the loaded program. -/
import Derived.Test.YtjkoppjikplkeaaAlA
import Derived.Test.YtjkoppjikplkeaaRd13
namespace Go.Proofs.Ytjkoppjikplkeaa
open Go.RowKit

/-- what is answered, by its parts -/
theorem passV_parts (s : ByteArray) : ∃ (a : ByteArray) (e : Int), passV s = .tuple #[.string a, .int .i64 e] := by
  unfold passV
  split <;> exact ⟨_, _, rfl⟩

set_option maxRecDepth 100000 in
theorem ipPasses_walk (s : ByteArray) (_ : s.size ≤ maxLen) (w : World) :
    Calls Try.prog 5 #[.string s] w fun e w' => e = .returned (.bool true) ∧ Below w.heap.size w w' := by
  have HA := hide alive_any
  by_cases h : 131072 < s.size
  · go_enter Try.func5, Try.ntmps5
    go_wp2_with fail
    refine (unhide HA _).mono ?_
    rintro e w1 ⟨rfl, b1⟩
    go_wp2
    go_ret
    exact ⟨rfl, b1⟩
  · have H1 := fun w => pass_any s w (by omega)
    have H2 := fun w => rpass_any s w (by omega)
    obtain ⟨a, e, he⟩ := passV_parts s
    rw [he] at H1 H2
    have H1 := hide H1
    have H2 := hide H2
    clear he
    go_enter Try.func5, Try.ntmps5
    go_wp2_with fail
    refine (unhide H1 _).mono ?_
    rintro e w1 ⟨rfl, b1⟩
    go_wp2_with fail
    refine (unhide H2 _).mono ?_
    rintro e w2 ⟨rfl, b2⟩
    go_wp2_with fail
    refine (unhide HA _).mono ?_
    rintro e w3 ⟨rfl, b3⟩
    go_wp2
    go_ret
    exact ⟨rfl, tr2 b1 (tr2 b2 b3)⟩
end Go.Proofs.Ytjkoppjikplkeaa
